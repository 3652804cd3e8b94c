/-
  The contracts of pouch's number, items, get, Get and All.
-/
import Derived.Test.YtmamepmfbfinlaaGreatDoorPouch3
import Derived.OrdersHeld
import Derived.Deep.RegionHeld
namespace Go.Proofs.YtmamepmfbfinlaaGreatDoor
open Go.RowKit

/-- The number that has a text. -/
def numP (t : ByteArray) : Option Int :=
  match Lib.parseIntB 64 t.data.toList with
  | .ok v => if decS v = t then some v else none
  | _ => none

/-- What number tells. -/
def numV (t : ByteArray) : Value := match numP t with | some v => .tuple #[.int .i64 v, .bool true] | none => .tuple #[.int .i64 0, .bool false]

theorem parse_range {l : List UInt8} {v : Int} (h : Lib.parseIntB 64 l = .ok v) : -9223372036854775808 ≤ v ∧ v ≤ 9223372036854775807 := by
  unfold Lib.parseIntB at h
  split at h
  · cases h
  · rename_i c r
    simp only at h
    split at h
    · cases h
    · cases h
    · rename_i u _
      split at h
      · cases h
      · split at h
        · cases h
        · rename_i h1 h2
          have hv := Lib.NumEnd.ok.inj h
          split at hv
          · rename_i hn
            have : ¬ 2 ^ (64 - 1) < u := fun g => h2 ⟨hn, g⟩
            omega
          · rename_i hn
            have : ¬ 2 ^ (64 - 1) ≤ u := fun g => h1 ⟨hn, g⟩
            omega

set_option maxRecDepth 100000 in
set_option maxHeartbeats 1000000 in
theorem number_p (t : ByteArray) (hs : t.size ≤ 9999999) (w : World) (h : LibAt w) :
    Calls Tryz.prog 75 #[.string t] w fun e w' => e = .returned (numV t) ∧ Below w.heap.size w w' := by
  unfold numV numP
  rcases hp : Lib.parseIntB 64 t.data.toList with v | _ | _
  · have H := Lib.hid ((Tryz.strconv_ParseInt_10_at64_ok t (by omega) v hp w).mono fun e w' (h : _ ∧ (w' = w ∨ ∃ t, w' = Lib.bytesWorld w 5 t)) => (⟨h.1, by rcases h.2 with rfl | ⟨t, rfl⟩; exact Below.refl _ _; exact Lib.bytesWorld_below _ _ _⟩ : _ ∧ Below w.heap.size w w'))
    have hr := parse_range hp
    have I := Lib.hid (fun w1 (hb : Below w.heap.size w w1) => fmtint_p v hr.1 hr.2 w1 (h.2.2.2.below hb))
    clear h hp hr
    by_cases he : decS v = t
    · have hst : (decS v).toList == t.toList := by rw [he]; exact beq_self_eq_true _
      simp only [if_pos he]
      rw [he] at I
      clear hst he
      go_enter Tryz.func75, Tryz.ntmps75
      go_wp2_with fail
      refine H.out.mono ?_
      rintro _ w1 ⟨rfl, hb1⟩
      go_wp2_with fail
      refine (I.out _ hb1).mono ?_
      rintro _ w2 ⟨rfl, hb2⟩
      go_wp2_with fail
      go_ret2
      exact ⟨rfl, hb1.trans (hb2.mono hb1.size)⟩
    · have hne := not_toList he
      simp only [if_neg he]
      generalize decS v = D at *
      clear he
      go_enter Tryz.func75, Tryz.ntmps75
      go_wp2_with fail
      refine H.out.mono ?_
      rintro _ w1 ⟨rfl, hb1⟩
      go_wp2_with fail
      refine (I.out _ hb1).mono ?_
      rintro _ w2 ⟨rfl, hb2⟩
      go_wp2_with fail
      go_ret2
      exact ⟨rfl, hb1.trans (hb2.mono hb1.size)⟩
  · obtain ⟨⟨ev, h1, h2⟩, _⟩ := h.2.1
    have H := Lib.hid (Tryz.strconv_ParseInt_10_at64_syntax t (by omega) hp ev w h1 h2)
    clear h hp h1 h2
    go_enter Tryz.func75, Tryz.ntmps75
    go_wp2_with fail
    refine H.out.mono ?_
    rintro _ w1 ⟨N, rfl, _, _, hb1⟩
    go_wp2_with fail
    go_ret2
    exact ⟨rfl, hb1⟩
  · obtain ⟨⟨ev, h1, h2⟩, _⟩ := h.2.2.1
    have H := Lib.hid (Tryz.strconv_ParseInt_10_at64_range t (by omega) hp ev w h1 h2)
    generalize Lib.intSat 64 t.data.toList = sat at H
    clear h hp h1 h2
    go_enter Tryz.func75, Tryz.ntmps75
    go_wp2_with fail
    refine H.out.mono ?_
    rintro _ w1 ⟨N, rfl, _, _, hb1⟩
    go_wp2_with fail
    go_ret2
    exact ⟨rfl, hb1⟩

theorem clone_p (s : ByteArray) (hs : s.size ≤ 9999999) (w : World) :
    Calls Tryz.prog 76 #[.string s] w fun e w' => e = .returned (.string s) ∧ Below w.heap.size w w' := by
  have H := Lib.hid (Tryz.stringslite_Clone s w (by omega))
  go_enter Tryz.func76, Tryz.ntmps76
  go_wp2_with fail
  refine H.out.mono ?_
  rintro _ w1 ⟨rfl, hb1⟩
  go_wp2_with fail
  go_ret
  exact ⟨rfl, hb1⟩

/-- A value that was read: its parts, how many bytes it takes, how many values it has. -/
structure G where
  k : Int
  n : Int
  s : ByteArray
  l : F
  b : Nat
  c : Nat

/-- What a list's text has, by a reader of one value: the values, and how many there are with those ahead. -/
def itemsP (g : ByteArray → Int → Except Nat G) (m : Int) : Nat → ByteArray → Nat → Option (F × Nat)
  | 0, _, _ => none
  | f + 1, t, n =>
    if t.size = 0 then some (.nil, n) else
      match g t (m - n) with
      | .error _ => none
      | .ok x => match itemsP g m f (t.extract x.b t.size) (n + x.c) with
        | none => none
        | some (r, z) => some (.cons x.k x.n x.s x.l r, z)

/-- The value at a text's beginning, at most so deep, of at most so many values. -/
def getP : Nat → ByteArray → Int → Except Nat G
  | 0, t, _ => if (cutP t).2.2 = 0 then .error 1 else .error (cutP t).2.2
  | d + 1, t, m =>
    if (cutP t).2.2 = 0 then
      if m = 0 then .error 1 else
        let c := (t.extract ((cutP t).2.1 - 1) (cutP t).2.1).data.toList
        if c = [35] then (match numP (cutP t).1 with | some v => .ok ⟨1, v, ⟨#[]⟩, .nil, (cutP t).2.1, 1⟩ | none => .error 1)
        else if c = [44] then .ok ⟨2, 0, (cutP t).1, .nil, (cutP t).2.1, 1⟩
        else if c = [93] then (match itemsP (getP d) (m - 1) ((cutP t).1.size + 1) (cutP t).1 0 with | some (l, z) => .ok ⟨3, 0, ⟨#[]⟩, l, (cutP t).2.1, 1 + z⟩ | none => .error 1)
        else .error 1
    else .error (cutP t).2.2

/-- A list of values lies in a block, from a cell on; it and all that it leads to lie in such blocks. -/
def RepA (w : World) (A : Nat → Prop) (b : Nat) : Nat → F → Prop
  | _, .nil => True
  | off, .cons k n s l r =>
    (A b ∧ ∃ cur t, w.heap[b]? = some (.cells cur t (0, 0))) ∧ w.cell? ⟨b, off, none⟩ = some (.int .i64 k) ∧ w.cell? ⟨b, off + 1, none⟩ = some (.int .i64 n) ∧ w.cell? ⟨b, off + 2, none⟩ = some (.string s) ∧
    (∃ ad cap, w.cell? ⟨b, off + 3, none⟩ = some (.slice ad l.len cap) ∧ (l = .nil ∨ ∃ b' o', ad = some ⟨b', o', none⟩ ∧ RepA w A b' o' l)) ∧ RepA w A b (off + 4) r

/-- .. behind a slice's address. -/
def RepG (w : World) (A : Nat → Prop) (ad : Option Addr) (l : F) : Prop := l = .nil ∨ ∃ b o, ad = some ⟨b, o, none⟩ ∧ RepA w A b o l

theorem RepA.repF {w : World} {A : Nat → Prop} : ∀ (f : F) (b off : Nat), RepA w A b off f → RepF w b off f
  | .nil, _, _, _ => trivial
  | .cons k n s l r, b, off, h => by
    obtain ⟨_, h0, h1, h2, ⟨ad, cap, h3, h4⟩, h5⟩ := h
    refine ⟨h0, h1, h2, ⟨ad, cap, h3, ?_⟩, RepA.repF r _ _ h5⟩
    rcases h4 with h4 | ⟨b', o', e, h4⟩
    · exact .inl h4
    · exact .inr ⟨b', o', e, RepA.repF l _ _ h4⟩

theorem RepG.repS {w : World} {A : Nat → Prop} {ad : Option Addr} {l : F} (h : RepG w A ad l) : RepS w ad l := by
  rcases h with h | ⟨b, o, e, h⟩
  · exact .inl h
  · exact .inr ⟨b, o, e, h.repF⟩

theorem cell_congr {w w' : World} {b o : Nat} (h : w'.heap[b]? = w.heap[b]?) : w'.cell? ⟨b, o, none⟩ = w.cell? ⟨b, o, none⟩ := by
  unfold World.cell?
  simp only [h]

/-- It lies so in another world, in which those blocks are as they were. -/
theorem RepA.to {w w' : World} {A A' : Nat → Prop} (hA : ∀ b, A b → b < w.heap.size → A' b ∧ w'.heap[b]? = w.heap[b]?) : ∀ (f : F) (b off : Nat), RepA w A b off f → RepA w' A' b off f
  | .nil, _, _, _ => trivial
  | .cons k n s l r, b, off, h => by
    obtain ⟨⟨ha, cur, tt, hcur⟩, h0, h1, h2, ⟨ad, cap, h3, h4⟩, h5⟩ := h
    have hb : b < w.heap.size := World.block_lt_of_cell? w _ h0
    obtain ⟨ha', he⟩ := hA b ha hb
    refine ⟨⟨ha', cur, tt, by rw [he]; exact hcur⟩, by rw [cell_congr he]; exact h0, by rw [cell_congr he]; exact h1, by rw [cell_congr he]; exact h2, ⟨ad, cap, by rw [cell_congr he]; exact h3, ?_⟩, RepA.to hA r _ _ h5⟩
    rcases h4 with h4 | ⟨b', o', e, h4⟩
    · exact .inl h4
    · exact .inr ⟨b', o', e, RepA.to hA l _ _ h4⟩

theorem RepG.to {w w' : World} {A A' : Nat → Prop} {ad : Option Addr} {l : F} (h : RepG w A ad l) (hA : ∀ b, A b → b < w.heap.size → A' b ∧ w'.heap[b]? = w.heap[b]?) : RepG w' A' ad l := by
  rcases h with h | ⟨b, o, e, h⟩
  · exact .inl h
  · exact .inr ⟨b, o, e, RepA.to hA _ _ _ h⟩

/-- One more list behind a list. -/
def F.app : F → F → F
  | .nil, g => g
  | .cons k n s l r, g => .cons k n s l (r.app g)

theorem F.app_len : ∀ (f g : F), (f.app g).len = f.len + g.len
  | .nil, g => by simp [F.app, F.len]
  | .cons k n s l r, g => by simp only [F.app, F.len, F.app_len r g]; omega

theorem F.app_assoc : ∀ (f g h : F), (f.app g).app h = f.app (g.app h)
  | .nil, _, _ => rfl
  | .cons k n s l r, g, h => by simp only [F.app, F.app_assoc r g h]

/-- Cells that hold a list of values. -/
def RepX (w : World) (A : Nat → Prop) : List Value → F → Prop
  | xs, .nil => xs = []
  | xs, .cons k n s l r => ∃ ad cap ys, xs = .int .i64 k :: .int .i64 n :: .string s :: .slice ad l.len cap :: ys ∧ RepG w A ad l ∧ RepX w A ys r

theorem RepX.to {w w' : World} {A A' : Nat → Prop} (hA : ∀ b, A b → b < w.heap.size → A' b ∧ w'.heap[b]? = w.heap[b]?) : ∀ (f : F) (xs : List Value), RepX w A xs f → RepX w' A' xs f
  | .nil, _, h => h
  | .cons k n s l r, _, h => by
    obtain ⟨ad, cap, ys, h1, h2, h3⟩ := h
    exact ⟨ad, cap, ys, h1, h2.to hA, RepX.to hA r ys h3⟩

theorem RepX.snoc {w : World} {A : Nat → Prop} {k n : Int} {s : ByteArray} {l : F} {ad : Option Addr} {cap : Nat} (hg : RepG w A ad l) : ∀ (f : F) (xs : List Value), RepX w A xs f →
    RepX w A (xs ++ [.int .i64 k, .int .i64 n, .string s, .slice ad l.len cap]) (f.app (.cons k n s l .nil))
  | .nil, _, h => by
    obtain rfl : _ = [] := h
    exact ⟨ad, cap, [], rfl, hg, rfl⟩
  | .cons _ _ _ _ r, _, h => by
    obtain ⟨ad', cap', ys, rfl, h2, h3⟩ := h
    exact ⟨ad', cap', _, rfl, h2, RepX.snoc hg r ys h3⟩

theorem RepX.len {w : World} {A : Nat → Prop} : ∀ (f : F) (xs : List Value), RepX w A xs f → xs.length = f.len * 4
  | .nil, _, h => by
    obtain rfl : _ = [] := h
    rfl
  | .cons _ _ _ _ r, _, h => by
    obtain ⟨ad', cap', ys, rfl, h2, h3⟩ := h
    have := RepX.len r ys h3
    simp only [List.length_cons, F.len]
    omega

/-- Cells of a block that hold a list of values: the list lies there. -/
theorem RepX.repA {w : World} {A A' : Nat → Prop} (hA : ∀ b, A b → A' b) {g : Nat} (hg : A' g ∧ ∃ cur t, w.heap[g]? = some (.cells cur t (0, 0))) : ∀ (f : F) (xs : List Value) (off : Nat), RepX w A xs f → (∀ j u, xs[j]? = some u → w.cell? ⟨g, off + j, none⟩ = some u) → RepA w A' g off f
  | .nil, _, _, _, _ => trivial
  | .cons k n s l r, _, off, h, hc => by
    obtain ⟨ad, cap, ys, rfl, h2, h3⟩ := h
    refine ⟨hg, by simpa using hc 0 _ rfl, hc 1 _ rfl, hc 2 _ rfl, ⟨ad, cap, hc 3 _ rfl, ?_⟩, RepX.repA hA hg r ys (off + 4) h3 (fun j u hj => by
      have := hc (j + 4) u (by simpa using hj)
      rw [show off + 4 + j = off + (j + 4) by omega]
      exact this)⟩
    exact h2.to (fun b hb _ => ⟨hA b hb, rfl⟩)

/-- What get tells. -/
def GetPost (r : Except Nat G) (w : World) (e : Ending) (w' : World) : Prop :=
  Below w.heap.size w w' ∧
  match r with
  | .error x => e = .returned (.tuple #[.agg #[.int .i64 0, .int .i64 0, .string ⟨#[]⟩, .slice none 0 0, .int .i64 0, .int .i64 0], .int .i64 x])
  | .ok x => ∃ ad cap, e = .returned (.tuple #[.agg #[.int .i64 x.k, .int .i64 x.n, .string x.s, .slice ad x.l.len (x.l.len + cap), .int .i64 x.b, .int .i64 x.c], .int .i64 0]) ∧ RepG w' (fun b => w.heap.size ≤ b) ad x.l

/-- What is known of get. -/
def GetQ (d : Nat) : Prop := ∀ (t : ByteArray) (m : Int) (w : World), t.size ≤ 9223372036854775807 → 0 ≤ m → m ≤ 1000000 → LibAt w →
  Calls Tryz.prog 57 #[.string t, .int .i64 d, .int .i64 m] w (GetPost (getP d t m) w)

/-- What items tells. -/
def ItemsPost (r : Option (F × Nat)) (w : World) (e : Ending) (w' : World) : Prop :=
  Below w.heap.size w w' ∧
  match r with
  | none => e = .returned (.tuple #[.slice none 0 0, .int .i64 0, .bool false])
  | some (l, z) => ∃ ad cap, e = .returned (.tuple #[.slice ad l.len (l.len + cap), .int .i64 z, .bool true]) ∧ RepG w' (fun b => w.heap.size ≤ b) ad l

/-- The bounds of what is cut. -/
theorem cutP_bd (t : ByteArray) (h : (cutP t).2.2 = 0) : 1 ≤ (cutP t).2.1 ∧ (cutP t).2.1 ≤ t.size ∧ (cutP t).1.size ≤ 9999999 ∧ (cutP t).1.size < t.size := by
  have hle := lenP_le t.data.toList 0 0 (by omega) (by decide)
  unfold cutP at h ⊢
  generalize lenP 0 0 t.data.toList = r at *
  obtain ⟨n, k, e⟩ := r
  simp only at *
  rw [show t.data.toList.length = t.size from rfl] at hle
  by_cases h0 : e = 0
  · rw [if_pos h0] at h ⊢
    obtain ⟨h1, h2, h3, h4⟩ := hle h0
    by_cases h5 : t.size - k ≤ n
    · rw [if_pos h5] at h
      simp at h
    · rw [if_neg h5]
      refine ⟨by simp, by simp; omega, ?_, ?_⟩
      · simp only [ByteArray.size_extract]; omega
      · simp only [ByteArray.size_extract]; omega
  · rw [if_neg h0] at h
    simp at h
    exact absurd h h0

theorem itemsP_bd (g : ByteArray → Int → Except Nat G) (hg : ∀ t m x, g t m = .ok x → 0 ≤ m → 1 ≤ x.c ∧ (x.c : Int) ≤ m ∧ (-9223372036854775808 ≤ x.n ∧ x.n ≤ 9223372036854775807) ∧ x.l.wf) (m : Int) : ∀ (f : Nat) (t : ByteArray) (n : Nat) (l : F) (z : Nat), itemsP g m f t n = some (l, z) → (n : Int) ≤ m → n ≤ z ∧ (z : Int) ≤ m ∧ l.wf
  | 0, t, n, l, z, h, hn => by cases h
  | f + 1, t, n, l, z, h, hn => by
    unfold itemsP at h
    by_cases h0 : t.size = 0
    · rw [if_pos h0] at h
      cases h
      exact ⟨Nat.le_refl _, hn, trivial⟩
    · rw [if_neg h0] at h
      cases hx : g t (m - n) with
      | error e => rw [hx] at h; cases h
      | ok x =>
        rw [hx] at h
        simp only at h
        obtain ⟨b1, b2, b3, b4⟩ := hg _ _ _ hx (by omega)
        cases hr : itemsP g m f (t.extract x.b t.size) (n + x.c) with
        | none => rw [hr] at h; cases h
        | some q =>
          obtain ⟨r, zz⟩ := q
          rw [hr] at h
          simp only at h
          cases h
          obtain ⟨c1, c2, c3⟩ := itemsP_bd g hg m f _ _ _ _ hr (by omega)
          exact ⟨by omega, c2, b3, b4, c3⟩

theorem getP_bd : ∀ (d : Nat) (t : ByteArray) (m : Int) (x : G), getP d t m = .ok x → 0 ≤ m → (1 ≤ x.c ∧ (x.c : Int) ≤ m ∧ (-9223372036854775808 ≤ x.n ∧ x.n ≤ 9223372036854775807) ∧ x.l.wf) ∧ x.b = (cutP t).2.1 ∧ (cutP t).2.2 = 0
  | 0, t, m, x, h, hm => by
    unfold getP at h
    split at h <;> cases h
  | d + 1, t, m, x, h, hm => by
    unfold getP at h
    by_cases h0 : (cutP t).2.2 = 0
    · rw [if_pos h0] at h
      by_cases hm0 : m = 0
      · rw [if_pos hm0] at h; cases h
      · rw [if_neg hm0] at h
        simp only at h
        split at h
        · split at h
          · rename_i v hv
            cases h
            refine ⟨⟨by simp, by simp; omega, ?_, trivial⟩, rfl, h0⟩
            unfold numP at hv
            split at hv
            · rename_i v' hp
              split at hv
              · cases hv; exact parse_range hp
              · cases hv
            · cases hv
          · cases h
        · split at h
          · cases h
            exact ⟨⟨by simp, by simp; omega, ⟨by simp, by simp⟩, trivial⟩, rfl, h0⟩
          · split at h
            · split at h
              · rename_i l z hi
                cases h
                obtain ⟨c1, c2, c3⟩ := itemsP_bd (getP d) (fun t m x hx hm => (getP_bd d t m x hx hm).1) (m - 1) _ _ _ _ _ hi (by omega)
                exact ⟨⟨by simp, by simp; omega, ⟨by simp, by simp⟩, c3⟩, rfl, h0⟩
              · cases h
            · cases h
    · rw [if_neg h0] at h; cases h

end Go.Proofs.YtmamepmfbfinlaaGreatDoor
