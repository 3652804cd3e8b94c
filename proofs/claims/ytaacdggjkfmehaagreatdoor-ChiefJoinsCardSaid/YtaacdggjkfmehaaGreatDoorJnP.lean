/-
  Contracts of the program, and what they rest on.
-/
import Derived.Test.YtaacdggjkfmehaaGreatDoorM34
import Derived.Test.YtaacdggjkfmehaaGreatDoorM27
import Derived.Test.YtaacdggjkfmehaaGreatDoorRChA
namespace Go.Proofs.YtaacdggjkfmehaaGreatDoor
open Go.RowKit Go.Maps Go.Proofs.MapD Go.Proofs.Chest
def jnB (now : Int) (s : Cs) : List Int → Cs
  | [] => s
  | m :: l => jnB now (stepS s 1 m 0 s.r.ep now).1 l
def jnR (ins : List Int) (n : Int) (s : Cs) (now : Int) : Cs := (stepS (jnB now (tickS s now) ins) 1 n 0 0 now).1
theorem jn_beat {s : Cs} {m now : Int} {ep : Int} (hm : m ∈ s.r.l) (h1 : 1 ≤ m ∧ m ≤ 5) :
    (stepS s 1 m 0 ep now).1 = ⟨s.r, s.nx, if s.chg then s.un else max s.un (now + 6), s.hd.set m.toNat now, s.asks, s.lost⟩ := by
  unfold stepS
  rw [if_neg (by omega), if_pos rfl]
  unfold beatS
  rw [if_pos ((has_mem s.r.l m).2 hm)]
  cases hc : s.chg with
  | true => rfl
  | false => rfl
theorem jn_ask {s : Cs} {n now : Int} {ep : Int} (hm : ¬ n ∈ s.r.l) (h1 : 1 ≤ n ∧ n ≤ 5) :
    (stepS s 1 n 0 ep now).1 = ⟨s.r, s.nx, s.un, s.hd, n, s.lost⟩ := by
  unfold stepS
  rw [if_neg (by omega), if_pos rfl]
  unfold beatS
  rw [if_neg (fun h => hm ((has_mem s.r.l n).1 h))]
structure JnB (now : Int) (s s' : Cs) (l : List Int) : Prop where
  r : s'.r = s.r
  nx : s'.nx = s.nx
  asks : s'.asks = s.asks
  lost : s'.lost = s.lost
  hd : s'.hd.length = s.hd.length
  heard : ∀ m : Nat, m < s.hd.length → s'.hd.getD m 0 = if (m : Int) ∈ l then now else s.hd.getD m 0
  un : s'.un ≤ max s.un (now + 6)
  unc : s.chg = true → s'.un = s.un
theorem jn_beats (now : Int) : ∀ (l : List Int) (s : Cs), (∀ m ∈ l, m ∈ s.r.l ∧ 1 ≤ m ∧ m ≤ 5) → s.hd.length = 6 → JnB now s (jnB now s l) l
  | [], s, _, _ => ⟨rfl, rfl, rfl, rfl, rfl, fun _ _ => rfl, by show s.un ≤ _; omega, fun _ => rfl⟩
  | m :: l, s, h, h6 => by
    obtain ⟨hm, hm1, hm2⟩ := h m (by simp)
    have e := jn_beat (ep := s.r.ep) (now := now) hm ⟨hm1, hm2⟩
    have ih := jn_beats now l (stepS s 1 m 0 s.r.ep now).1 (fun k hk => by rw [e]; exact h k (by simp [hk])) (by rw [e]; simpa using h6)
    show JnB now s (jnB now (stepS s 1 m 0 s.r.ep now).1 l) (m :: l)
    rw [e] at ih ⊢
    refine ⟨ih.r, ih.nx, ih.asks, ih.lost, by simpa using ih.hd, ?_, ?_, ?_⟩
    · intro k hk
      rw [ih.heard k (by simpa using hk)]
      dsimp only
      by_cases hkl : (k : Int) ∈ l
      · rw [if_pos hkl, if_pos (by simp [hkl])]
      · rw [if_neg hkl]
        by_cases hkm : (k : Int) = m
        · rw [if_pos (by simp [hkm])]
          obtain rfl : m.toNat = k := by omega
          simp [List.getD_eq_getElem?_getD, hk]
        · rw [if_neg (by simp [hkl, hkm])]
          have : m.toNat ≠ k := by omega
          simp [List.getD_eq_getElem?_getD, this]
    · have h1 := ih.un
      dsimp only at h1
      generalize (jnB now _ l).un = z at h1 ⊢
      split at h1 <;> omega
    · intro hc
      have h1 := ih.unc hc
      dsimp only at h1
      generalize (jnB now _ l).un = z at h1 ⊢
      rw [if_pos hc] at h1
      exact h1
theorem jn_silent {s : Cs} {now : Int} : ∀ {l : List Int}, (∀ m ∈ l, now - 9 ≤ s.hd.getD m.toNat 0) → silentS s.hd now l = 0
  | [], _ => rfl
  | m :: l, h => by
    unfold silentS
    rw [if_neg (by have := h m (by simp); omega)]
    exact jn_silent fun k hk => h k (by simp [hk])
theorem jn_tick {s : Cs} {now : Int} (hc : s.chg = false) (h : ∀ m ∈ s.r.l, now - 9 ≤ s.hd.getD m.toNat 0) : tickS s now = ⟨s.r, (addR s.r s.asks).1, s.un, s.hd, s.asks, false⟩ := by
  unfold tickS
  rw [hc, if_neg Bool.false_ne_true]
  unfold findS
  rw [if_pos (jn_silent h)]
theorem jn_wait {s : Cs} {now : Int} (hc : s.chg = true) (h : now ≤ s.un) : tickS s now = s := by
  unfold tickS
  rw [hc, if_pos rfl, if_neg (by omega)]
theorem jn_enter {s : Cs} {now : Int} (hc : s.chg = true) (h : s.un < now) : tickS s now = enterS s s.nx now := by
  unfold tickS
  rw [hc, if_pos rfl, if_pos h]
theorem add_none {r : Ro} {n : Int} (h : n < 1) : (addR r n).1 = Ro.zero := by
  rcases addR_cases r n with ⟨_, _, _, _, h1, _⟩ | h1
  · omega
  · rw [h1]
structure JS (s : Cs) (ro : Ro) (asks now : Int) : Prop where
  r : s.r = ro
  nx : s.nx = Ro.zero
  asks : s.asks = asks
  lost : s.lost = false
  hd : s.hd.length = 6
  heard : ∀ m ∈ ro.l, s.hd.getD m.toNat 0 = now
  un : s.un ≤ now + 6
structure JW (s : Cs) (ro ro' : Ro) (asks now U : Int) : Prop where
  r : s.r = ro
  nx : s.nx = ro'
  asks : s.asks = asks
  lost : s.lost = false
  hd : s.hd.length = 6
  heard : ∀ m ∈ ro.l, s.hd.getD m.toNat 0 = now
  un : s.un ≤ U
theorem chg_zero {s : Cs} (h : s.nx = Ro.zero) : s.chg = false := by
  unfold Cs.chg
  rw [h]
  rfl
theorem set_heard {l : List Int} {a b : Nat} {x : Int} (ha : a < l.length) : (l.set a x).getD b 0 = if a = b then x else l.getD b 0 := by
  by_cases h : a = b
  · subst h
    simp [List.getD_eq_getElem?_getD, ha]
  · simp [List.getD_eq_getElem?_getD, h]
section
variable {s : Cs} {r r' : Ro} {now n U : Int}
theorem JS.quiet {ins : List Int} (h : JS s r 0 now) (h5 : ∀ m ∈ r.l, 1 ≤ m ∧ m ≤ 5) (h1 : ∀ m ∈ ins, m ∈ r.l) (h2 : ∀ m ∈ r.l, m ∈ ins ∨ m = n) (hn : n ∈ r.l) : JS (jnR ins n s (now + 1)) r 0 (now + 1) := by
  have hn5 := h5 n hn
  have ht := jn_tick (now := now + 1) (chg_zero h.nx) (fun m hm => by rw [h.heard m (h.r ▸ hm)]; omega)
  rw [h.asks, add_none (by omega), h.r] at ht
  have hb := jn_beats (now + 1) ins (tickS s (now + 1)) (fun m hm => by rw [ht]; exact ⟨h1 m hm, h5 m (h1 m hm)⟩) (by rw [ht]; exact h.hd)
  unfold jnR
  generalize jnB (now + 1) (tickS s (now + 1)) ins = s2 at *
  have hr := hb.r
  have hx := hb.nx
  have ha := hb.asks
  have hl := hb.lost
  have hd := hb.hd
  have hh := hb.heard
  have hu := hb.un
  rw [ht] at hr hx ha hl hd hh hu
  dsimp only at hr hx ha hl hd hh hu
  rw [h.hd] at hd hh
  have hu0 := h.un
  rw [jn_beat (by rw [hr]; exact hn) hn5]
  refine ⟨hr, hx, ha, hl, by simpa using hd, ?_, ?_⟩
  · intro m hm
    have hm5 := h5 m hm
    dsimp only
    rw [set_heard (by omega)]
    split
    · rfl
    · rename_i hne
      rw [hh m.toNat (by omega), if_pos]
      rw [show ((m.toNat : Nat) : Int) = m by omega]
      rcases h2 m hm with h3 | h3
      · exact h3
      · exact absurd (by rw [h3]) hne
  · dsimp only
    split <;> omega
theorem JS.ask (h : JS s r 0 now) (h5 : ∀ m ∈ r.l, 1 ≤ m ∧ m ≤ 5) (hn : ¬ n ∈ r.l) (hn5 : 1 ≤ n ∧ n ≤ 5) : JS (jnR r.l n s (now + 1)) r n (now + 1) := by
  have ht := jn_tick (now := now + 1) (chg_zero h.nx) (fun m hm => by rw [h.heard m (h.r ▸ hm)]; omega)
  rw [h.asks, add_none (by omega), h.r] at ht
  have hb := jn_beats (now + 1) r.l (tickS s (now + 1)) (fun m hm => by rw [ht]; exact ⟨hm, h5 m hm⟩) (by rw [ht]; exact h.hd)
  unfold jnR
  generalize jnB (now + 1) (tickS s (now + 1)) r.l = s2 at *
  have hr := hb.r
  have hx := hb.nx
  have hl := hb.lost
  have hd := hb.hd
  have hh := hb.heard
  have hu := hb.un
  rw [ht] at hr hx hl hd hh hu
  dsimp only at hr hx hl hd hh hu
  rw [h.hd] at hd hh
  have hu0 := h.un
  rw [jn_ask (by rw [hr]; exact hn) hn5]
  refine ⟨hr, hx, rfl, hl, hd, ?_, ?_⟩
  · intro m hm
    have hm5 := h5 m hm
    dsimp only
    rw [hh m.toNat (by omega), if_pos]
    rw [show ((m.toNat : Nat) : Int) = m by omega]
    exact hm
  · dsimp only
    omega
theorem JS.find (h : JS s r n now) (h5 : ∀ m ∈ r.l, 1 ≤ m ∧ m ≤ 5) (hn : ¬ n ∈ r.l) (hn5 : 1 ≤ n ∧ n ≤ 5) (hr' : (addR r n).1 = r') (hep : 0 < r'.ep) : JW (jnR r.l n s (now + 1)) r r' n (now + 1) (now + 6) := by
  have ht := jn_tick (now := now + 1) (chg_zero h.nx) (fun m hm => by rw [h.heard m (h.r ▸ hm)]; omega)
  rw [h.asks, h.r, hr'] at ht
  have hb := jn_beats (now + 1) r.l (tickS s (now + 1)) (fun m hm => by rw [ht]; exact ⟨hm, h5 m hm⟩) (by rw [ht]; exact h.hd)
  have hc : (tickS s (now + 1)).chg = true := by
    rw [ht]
    exact decide_eq_true hep
  unfold jnR
  generalize jnB (now + 1) (tickS s (now + 1)) r.l = s2 at *
  have hr := hb.r
  have hx := hb.nx
  have hl := hb.lost
  have hd := hb.hd
  have hh := hb.heard
  have hu := hb.unc hc
  rw [ht] at hr hx hl hd hh hu
  dsimp only at hr hx hl hd hh hu
  rw [h.hd] at hd hh
  have hu0 := h.un
  rw [jn_ask (by rw [hr]; exact hn) hn5]
  refine ⟨hr, hx, rfl, hl, hd, ?_, ?_⟩
  · intro m hm
    have hm5 := h5 m hm
    dsimp only
    rw [hh m.toNat (by omega), if_pos]
    rw [show ((m.toNat : Nat) : Int) = m by omega]
    exact hm
  · dsimp only
    omega
theorem JW.next (h : JW s r r' n now U) (h5 : ∀ m ∈ r.l, 1 ≤ m ∧ m ≤ 5) (hn : ¬ n ∈ r.l) (hn5 : 1 ≤ n ∧ n ≤ 5) (hl' : r'.l = r.l ++ [n]) (hep : 0 < r'.ep) :
    JW (jnR r.l n s (now + 1)) r r' n (now + 1) U ∧ now + 1 ≤ U ∨ JS (jnR r.l n s (now + 1)) r' 0 (now + 1) := by
  have hc : s.chg = true := by
    unfold Cs.chg
    rw [h.nx]
    exact decide_eq_true hep
  by_cases hw : now + 1 ≤ s.un
  · have hu0 := h.un
    refine .inl ⟨?_, by omega⟩
    have ht := jn_wait hc hw
    have hb := jn_beats (now + 1) r.l (tickS s (now + 1)) (fun m hm => by rw [ht, h.r]; exact ⟨hm, h5 m hm⟩) (by rw [ht]; exact h.hd)
    unfold jnR
    generalize jnB (now + 1) (tickS s (now + 1)) r.l = s2 at *
    have hr := hb.r
    have hx := hb.nx
    have hl := hb.lost
    have hd := hb.hd
    have hh := hb.heard
    rw [ht] at hr hx hl hd hh
    have hu := hb.unc (by rw [ht]; exact hc)
    rw [ht] at hu
    rw [h.hd] at hd hh
    rw [jn_ask (by rw [hr, h.r]; exact hn) hn5]
    refine ⟨hr.trans h.r, hx.trans h.nx, rfl, hl.trans h.lost, hd, ?_, ?_⟩
    · intro m hm
      have hm5 := h5 m hm
      dsimp only
      rw [hh m.toNat (by omega), if_pos]
      rw [show ((m.toNat : Nat) : Int) = m by omega]
      exact hm
    · dsimp only
      omega
  · refine .inr ?_
    have hu0 : s.un < now + 1 := by omega
    have ht := jn_enter hc hu0
    have hb := jn_beats (now + 1) r.l (tickS s (now + 1)) (fun m hm => by rw [ht, h.nx]; exact ⟨by show m ∈ r'.l; rw [hl']; simp [hm], h5 m hm⟩) (by rw [ht]; rfl)
    unfold jnR
    generalize jnB (now + 1) (tickS s (now + 1)) r.l = s2 at *
    have hr := hb.r
    have hx := hb.nx
    have ha := hb.asks
    have hl := hb.lost
    have hd := hb.hd
    have hh := hb.heard
    have hu := hb.un
    rw [ht, h.nx] at hr hx ha hl hd hh hu
    unfold enterS at hr hx ha hl hd hh hu
    dsimp only at hr hx ha hl hd hh hu
    rw [show (allH (now + 1)).length = 6 from rfl] at hd hh
    rw [jn_beat (by rw [hr, hl']; simp) hn5]
    refine ⟨hr, hx, ha, hl.trans h.lost, by simpa using hd, ?_, ?_⟩
    · intro m hm
      dsimp only
      have hm5 : 1 ≤ m ∧ m ≤ 5 := by
        rw [hl'] at hm
        rcases List.mem_append.1 hm with hm | hm
        · exact h5 m hm
        · obtain rfl : m = n := by simpa using hm
          exact hn5
      rw [set_heard (by omega)]
      split
      · rfl
      · rw [hh m.toNat (by omega)]
        obtain hk | hk | hk | hk | hk : m = 1 ∨ m = 2 ∨ m = 3 ∨ m = 4 ∨ m = 5 := by omega
        all_goals
          subst hk
          split <;> rfl
    · dsimp only
      split <;> omega
end
def jnRs (ins : List Int) (n now : Int) (s : Cs) : Nat → Cs
  | 0 => s
  | k + 1 => jnR ins n (jnRs ins n now s k) (now + (k : Int) + 1)
theorem jn_rest {s : Cs} {r : Ro} {now n : Int} (h : JS s r 0 now) (h5 : ∀ m ∈ r.l, 1 ≤ m ∧ m ≤ 5) (hn : n ∈ r.l) : ∀ k : Nat, JS (jnRs r.l n now s k) r 0 (now + (k : Int))
  | 0 => by
    rw [show now + ((0 : Nat) : Int) = now by omega]
    exact h
  | k + 1 => by
    have h1 := (jn_rest h h5 hn k).quiet h5 (fun m hm => hm) (fun m hm => .inl hm) hn
    have e : now + ((k + 1 : Nat) : Int) = now + (k : Int) + 1 := by omega
    rw [e]
    exact h1
theorem jn_joins {s : Cs} {r r' : Ro} {now n : Int} (h : JS s r 0 now) (h5 : ∀ m ∈ r.l, 1 ≤ m ∧ m ≤ 5) (hn : ¬ n ∈ r.l) (hn5 : 1 ≤ n ∧ n ≤ 5) (hr' : (addR r n).1 = r') (hl' : r'.l = r.l ++ [n]) (hep : 0 < r'.ep) : JS (jnRs r.l n now s 9) r' 0 (now + 9) := by
  have h1 := h.ask h5 hn hn5
  have h2 := h1.find h5 hn hn5 hr' hep
  have h5' : ∀ m ∈ r'.l, 1 ≤ m ∧ m ≤ 5 := fun m hm => by
    rw [hl'] at hm
    rcases List.mem_append.1 hm with hm | hm
    · exact h5 m hm
    · obtain rfl : m = n := by simpa using hm
      exact hn5
  have hk : ∀ k : Nat, (JW (jnRs r.l n now s (k + 2)) r r' n (now + ((k + 2 : Nat) : Int)) (now + 7) ∧ now + ((k + 2 : Nat) : Int) ≤ now + 7) ∨ JS (jnRs r.l n now s (k + 2)) r' 0 (now + ((k + 2 : Nat) : Int)) := by
    intro k
    induction k with
    | zero =>
      refine .inl ⟨?_, by omega⟩
      have e1 : jnRs r.l n now s 2 = jnR r.l n (jnR r.l n s (now + 1)) (now + 1 + 1) := by
        show jnR r.l n (jnR r.l n s (now + ((0 : Nat) : Int) + 1)) (now + ((1 : Nat) : Int) + 1) = _
        simp
      rw [Nat.zero_add, e1, show now + ((2 : Nat) : Int) = now + 1 + 1 by omega, show now + 7 = now + 1 + 6 by omega]
      exact h2
    | succ k ih =>
      have e : now + ((k + 1 + 2 : Nat) : Int) = now + ((k + 2 : Nat) : Int) + 1 := by omega
      have e2 : jnRs r.l n now s (k + 1 + 2) = jnR r.l n (jnRs r.l n now s (k + 2)) (now + ((k + 2 : Nat) : Int) + 1) := rfl
      rw [e, e2]
      rcases ih with ⟨ih, _⟩ | ih
      · rcases ih.next h5 hn hn5 hl' hep with ⟨h6, h7⟩ | h6
        · exact .inl ⟨h6, h7⟩
        · exact .inr h6
      · refine .inr (ih.quiet h5' (fun m hm => by rw [hl']; simp [hm]) (fun m hm => ?_) (by rw [hl']; simp))
        rw [hl'] at hm
        simpa using hm
  rcases hk 7 with ⟨_, h6⟩ | h6
  · omega
  · exact h6
theorem jn_early {s : Cs} {r : Ro} {now n : Int} (h : JS s r 0 now) (hn5 : 1 ≤ n ∧ n ≤ 5) (t : Int) : (stepS s 11 n 0 (r.ep - 1) t).1 = s := by
  unfold stepS
  rw [if_neg (by omega), if_neg (by decide), if_pos rfl]
  unfold fullS
  rw [if_neg (by rw [h.r]; omega)]
theorem jn_full {s : Cs} {r : Ro} {now n : Int} (h : JS s r 0 now) (hn5 : 1 ≤ n ∧ n ≤ 5) (hnw : r.nw = n) (t : Int) : JS (stepS s 11 n 0 r.ep t).1 ⟨r.ep, r.l, 0⟩ 0 now := by
  unfold stepS
  rw [if_neg (by omega), if_neg (by decide), if_pos rfl]
  unfold fullS
  rw [if_pos ⟨by rw [h.r, hnw], by rw [h.r], chg_zero h.nx⟩]
  refine ⟨?_, h.nx, h.asks, h.lost, h.hd, h.heard, h.un⟩
  dsimp only
  rw [h.r]
end Go.Proofs.YtaacdggjkfmehaaGreatDoor
