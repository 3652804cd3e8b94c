/-
 Contracts of the program, and what they rest on.
-/
import Derived.Test.YtoealjcjpjapkaaGreatDoorRA
import Derived.Test.YtoealjcjpjapkaaGreatDoorRefDa
set_option maxRecDepth 100000
set_option maxHeartbeats 16000000
namespace Go.Proofs.YtoealjcjpjapkaaGreatDoor
open Go.RowKit Go.Proofs.Flo Go.Proofs.Cpl Go.Sort
theorem rmay_p (d : De) (b : Bool) (hb : b = true ↔ mayD d) (hk : d.key.size ≤ 1000000) (w : World) :
  Calls Tryz.prog 19 #[dagg d] w fun e w' => e = .returned (.bool b) ∧ Below w.heap.size w w' := by
 obtain ⟨kind, key, body, ver, cond, tag, req, low⟩ := d
 have HB := Lib.hid (show Below w.heap.size w (w.alloc (.cells #[.int .i64 kind, .string key, .string body, .int .i64 ver, .int .i64 cond, .string tag, .int .i64 req, .int .i64 low] 23)) from (Below.refl _ _).alloc (Nat.le_refl _) _)
 have HC := Lib.hid (DeC.new w ⟨kind, key, body, ver, cond, tag, req, low⟩ 23)
 have K := Lib.hid (fun w1 => rkey_p key hk w1)
 have Ho := Lib.hid (fun w1 => rhome_p req w1)
 have HR := Lib.hid (fun w1 => rread tag w1)
 unfold mayD at hb
 rw [pureD_mk] at hb
 unfold dagg
 dsimp only at hb HC ⊢
 clear hk
 obtain ⟨kb, hkb⟩ : ∃ kb, keyB key = kb := ⟨_, rfl⟩
 rw [hkb] at hb K
 obtain ⟨hm, hhm⟩ : ∃ hm, homeP req = hm := ⟨_, rfl⟩
 rw [hhm] at hb Ho
 clear hkb hhm
 go_enter Tryz.func19, Tryz.ntmps19
 go_wp2_with fail
 refine (K.out _).mono ?_
 rintro _ w' ⟨rfl, rfl⟩
 obtain ⟨q0, q1, q2, q3, q4, q5, q6, q7⟩ := HC.out
 cases kb with
 | false =>
  obtain rfl : b = false := by
   cases b with
   | false => rfl
   | true => exact absurd (hb.1 rfl) (fun h => by cases h.1)
  clear hb
  go_wp2_with fail
  go_ret
  exact ⟨rfl, HB.out⟩
 | true =>
 by_cases h2 : hm = 0
 ·subst h2
  obtain rfl : b = false := by
   cases b with
   | false => rfl
   | true => exact absurd (hb.1 rfl) (fun h => by first | (simp at h; done) | (simp at h; omega))
  clear hb
  go_wp2_with fail
  refine (Ho.out _).mono ?_
  rintro _ w' ⟨rfl, rfl⟩
  go_wp2_with fail
  go_ret
  exact ⟨rfl, HB.out⟩
 have n2 : (hm == 0) = false := by rw [beq_eq_false_iff_ne]; exact h2
 by_cases h3 : low < 0
 ·obtain rfl : b = false := by
   cases b with
   | false => rfl
   | true => exact absurd (hb.1 rfl) (fun h => by first | (simp at h; done) | (simp at h; omega))
  clear hb
  go_wp2_with fail
  refine (Ho.out _).mono ?_
  rintro _ w' ⟨rfl, rfl⟩
  go_wp2_with fail
  go_ret
  exact ⟨rfl, HB.out⟩
 by_cases h4 : req < low
 ·obtain rfl : b = false := by
   cases b with
   | false => rfl
   | true => exact absurd (hb.1 rfl) (fun h => by first | (simp at h; done) | (simp at h; omega))
  clear hb
  go_wp2_with fail
  refine (Ho.out _).mono ?_
  rintro _ w' ⟨rfl, rfl⟩
  go_wp2_with fail
  go_ret
  exact ⟨rfl, HB.out⟩
 have hb2 : b = true ↔ ((kind = 1 ∧ body.size ≤ 300 ∧ ver = 0 ∧ condD cond tag) ∨ (kind = 2 ∧ body.size = 0 ∧ ver = 0 ∧ cond = 0 ∧ tag.size = 0) ∨ (kind = 3 ∧ body.size = 0 ∧ (1 ≤ ver ∧ ver ≤ 1099511627776) ∧ cond = 0 ∧ tag.size = 0)) := by
  rw [hb]
  exact ⟨fun h => h.2.2.2.2, fun h => ⟨by first | exact rfl | exact trivial, h2, by omega, by omega, h⟩⟩
 clear hb
 go_wp2_with fail
 refine (Ho.out _).mono ?_
 rintro _ w' ⟨rfl, rfl⟩
 go_wp2_with fail
 refine (HR.out _).mono ?_
 rintro _ w1 ⟨p, ok, rfl, hyes, hno, hb1⟩
 have HB1 := Lib.hid (HB.out.trans (hb1.mono HB.out.size))
 have HC1 := Lib.hid (HC.out.below hb1)
 have HB2 := Lib.hid (HB1.out.alloc HB1.out.size (.cells #[.int .i64 p.1, .int .i64 p.2] 54))
 clear hb1 q0 q1 q2 q3 q4 q5 q6 q7
 obtain ⟨q0, q1, q2, q3, q4, q5, q6, q7⟩ := HC1.out
 dsimp only at q0 q1 q2 q3 q4 q5 q6 q7
 have hs1 : w.heap.size < w1.heap.size := World.block_lt_of_cell? w1 _ q0
 have hs2 : ¬ w.heap.size = w1.heap.size := by omega
 have hs3 : ¬ w1.heap.size = w.heap.size := by omega
 have hok : ok = true ↔ ∃ q, IsText tag q := by
  constructor
  ·intro h
   by_cases hq : ∃ q, IsText tag q
   ·exact hq
   ·have := (hno (fun q hq' => hq ⟨q, hq'⟩)).2
    rw [h] at this
    cases this
  ·rintro ⟨q, hq⟩
   exact (hyes q hq).2
 clear hyes hno
 by_cases k1 : kind = 1
 ·subst k1
  by_cases h5 : body.size ≤ 300
  case neg =>
   have c5 : ¬ (body.size : Int) ≤ 300 := by omega
   obtain rfl : b = false := by
    cases b with
    | false => rfl
    | true => exact absurd (hb2.1 rfl) (fun h => by rcases h with h | h | h <;> omega)
   clear hb2
   go_wp2_with fail
   go_ret
   exact ⟨rfl, HB2.out⟩
  have c5 : (body.size : Int) ≤ 300 := by omega
  by_cases h6 : ver = 0
  case neg =>
   have n6 : (ver == 0) = false := by rw [beq_eq_false_iff_ne]; exact h6
   obtain rfl : b = false := by
    cases b with
    | false => rfl
    | true => exact absurd (hb2.1 rfl) (fun h => by rcases h with h | h | h <;> omega)
   clear hb2
   go_wp2_with fail
   go_ret
   exact ⟨rfl, HB2.out⟩
  subst h6
  have hb3 : b = true ↔ condD cond tag := by
   rw [hb2]
   constructor
   ·rintro (h | h | h)
    ·exact h.2.2.2
    ·omega
    ·omega
   ·exact fun h => .inl ⟨rfl, h5, rfl, h⟩
  unfold condD at hb3
  clear hb2 h5
  by_cases h7 : 0 ≤ cond
  case neg =>
   obtain rfl : b = false := by
    cases b with
    | false => rfl
    | true => exact absurd (hb3.1 rfl) (fun h => by rcases h with h | h <;> omega)
   clear hb3
   go_wp2_with fail
   go_ret
   exact ⟨rfl, HB2.out⟩
  by_cases h8 : cond ≤ 2
  case neg =>
   obtain rfl : b = false := by
    cases b with
    | false => rfl
    | true => exact absurd (hb3.1 rfl) (fun h => by rcases h with h | h <;> omega)
   clear hb3
   go_wp2_with fail
   go_ret
   exact ⟨rfl, HB2.out⟩
  by_cases h9 : cond = 2
  ·subst h9
   obtain rfl : b = ok := by
    have : b = true ↔ ok = true := by
     rw [hb3, hok]
     constructor
     ·rintro (h | h)
      ·omega
      ·exact h.2
     ·exact fun h => .inr ⟨rfl, h⟩
    cases b <;> cases ok <;> simp_all
   clear hb3 hok
   cases b with
   | true =>
    go_wp2_with fail
    go_ret
    exact ⟨rfl, HB2.out⟩
   | false =>
    go_wp2_with fail
    go_ret
    exact ⟨rfl, HB2.out⟩
  ·have n9 : (cond == 2) = false := by rw [beq_eq_false_iff_ne]; exact h9
   have n9' : (cond != 2) = true := by rw [bne_iff_ne]; exact h9
   by_cases h10 : tag.size = 0
   ·obtain rfl : b = true := hb3.2 (.inl ⟨by omega, h10⟩)
    obtain rfl := ba_size0 h10
    clear hb3 hok h10
    go_wp2_with fail
    go_ret
    exact ⟨rfl, HB2.out⟩
   ·have n10 := ba_isEmpty h10
    obtain rfl : b = false := by
     cases b with
     | false => rfl
     | true => exact absurd (hb3.1 rfl) (fun h => by rcases h with h | h <;> omega)
    clear hb3 hok
    go_wp2_with fail
    go_ret
    exact ⟨rfl, HB2.out⟩
 by_cases k2 : kind = 2
 ·subst k2
  by_cases h5 : body.size = 0
  case neg =>
   have n5 := ba_isEmpty h5
   obtain rfl : b = false := by
    cases b with
    | false => rfl
    | true => exact absurd (hb2.1 rfl) (fun h => by rcases h with h | h | h <;> omega)
   clear hb2
   go_wp2_with fail
   go_ret
   exact ⟨rfl, HB2.out⟩
  have e5 := ba_size0 h5
  subst e5
  by_cases h6 : ver = 0
  case neg =>
   have n6 : (ver == 0) = false := by rw [beq_eq_false_iff_ne]; exact h6
   obtain rfl : b = false := by
    cases b with
    | false => rfl
    | true => exact absurd (hb2.1 rfl) (fun h => by rcases h with h | h | h <;> omega)
   clear hb2
   go_wp2_with fail
   go_ret
   exact ⟨rfl, HB2.out⟩
  subst h6
  by_cases h7 : cond = 0
  case neg =>
   have n7 : (cond == 0) = false := by rw [beq_eq_false_iff_ne]; exact h7
   obtain rfl : b = false := by
    cases b with
    | false => rfl
    | true => exact absurd (hb2.1 rfl) (fun h => by rcases h with h | h | h <;> omega)
   clear hb2
   go_wp2_with fail
   go_ret
   exact ⟨rfl, HB2.out⟩
  subst h7
  by_cases h8 : tag.size = 0
  case neg =>
   have n8 := ba_isEmpty h8
   obtain rfl : b = false := by
    cases b with
    | false => rfl
    | true => exact absurd (hb2.1 rfl) (fun h => by rcases h with h | h | h <;> omega)
   clear hb2
   go_wp2_with fail
   go_ret
   exact ⟨rfl, HB2.out⟩
  have e8 := ba_size0 h8
  subst e8
  obtain rfl : b = true := hb2.2 (.inr (.inl ⟨rfl, h5, rfl, rfl, h8⟩))
  clear hb2 hok
  go_wp2_with fail
  go_ret
  exact ⟨rfl, HB2.out⟩
 by_cases k3 : kind = 3
 ·subst k3
  by_cases h5 : body.size = 0
  case neg =>
   have n5 := ba_isEmpty h5
   obtain rfl : b = false := by
    cases b with
    | false => rfl
    | true => exact absurd (hb2.1 rfl) (fun h => by rcases h with h | h | h <;> omega)
   clear hb2
   go_wp2_with fail
   go_ret
   exact ⟨rfl, HB2.out⟩
  have e5 := ba_size0 h5
  subst e5
  by_cases h6 : 1 ≤ ver
  case neg =>
   obtain rfl : b = false := by
    cases b with
    | false => rfl
    | true => exact absurd (hb2.1 rfl) (fun h => by rcases h with h | h | h <;> omega)
   clear hb2
   go_wp2_with fail
   go_ret
   exact ⟨rfl, HB2.out⟩
  by_cases h9 : ver ≤ 1099511627776
  case neg =>
   obtain rfl : b = false := by
    cases b with
    | false => rfl
    | true => exact absurd (hb2.1 rfl) (fun h => by rcases h with h | h | h <;> omega)
   clear hb2
   go_wp2_with fail
   go_ret
   exact ⟨rfl, HB2.out⟩
  by_cases h7 : cond = 0
  case neg =>
   have n7 : (cond == 0) = false := by rw [beq_eq_false_iff_ne]; exact h7
   obtain rfl : b = false := by
    cases b with
    | false => rfl
    | true => exact absurd (hb2.1 rfl) (fun h => by rcases h with h | h | h <;> omega)
   clear hb2
   go_wp2_with fail
   go_ret
   exact ⟨rfl, HB2.out⟩
  subst h7
  by_cases h8 : tag.size = 0
  case neg =>
   have n8 := ba_isEmpty h8
   obtain rfl : b = false := by
    cases b with
    | false => rfl
    | true => exact absurd (hb2.1 rfl) (fun h => by rcases h with h | h | h <;> omega)
   clear hb2
   go_wp2_with fail
   go_ret
   exact ⟨rfl, HB2.out⟩
  have e8 := ba_size0 h8
  subst e8
  obtain rfl : b = true := hb2.2 (.inr (.inr ⟨rfl, h5, ⟨h6, h9⟩, rfl, h8⟩))
  clear hb2 hok
  go_wp2_with fail
  go_ret
  exact ⟨rfl, HB2.out⟩
 have e1 : (kind == 1) = false := by rw [beq_eq_false_iff_ne]; exact k1
 have e2 : (kind == 2) = false := by rw [beq_eq_false_iff_ne]; exact k2
 have e3 : (kind == 3) = false := by rw [beq_eq_false_iff_ne]; exact k3
 obtain rfl : b = false := by
  cases b with
  | false => rfl
  | true => exact absurd (hb2.1 rfl) (fun h => by rcases h with h | h | h <;> omega)
 clear hb2
 go_wp2_with fail
 go_ret
 exact ⟨rfl, HB2.out⟩
end Go.Proofs.YtoealjcjpjapkaaGreatDoor
