/-
  Deep lists and long ones: what may be, and how long their texts are.
-/
import Derived.Test.YtamennoehnigaaaDoorDec
namespace Go.Proofs.YtamennoehnigaaaDoor
open Go.RowKit

def chK (j : Nat) : Int := if j = 0 then 2 else 3
def chS (j : Nat) : ByteArray := if j = 0 then ⟨#[120]⟩ else ⟨#[]⟩

/-- A text in a list in a list, and so on. -/
def chL : Nat → F
  | 0 => .nil
  | j + 1 => .cons (chK j) 0 (chS j) (chL j) .nil

theorem ch_len (j : Nat) : (chL j).len = if j = 0 then 0 else 1 := by
  cases j with
  | zero => rfl
  | succ j => rfl

theorem ch_pure (j : Nat) : pureB (chK j) 0 (chS j) (chL j).len = true := by
  rw [ch_len]
  unfold pureB chK chS
  by_cases h : j = 0
  · simp [h]
  · simp [h]

theorem ch_facts : ∀ j : Nat, (chL j).ok = true ∧ (chL j).dep = j ∧ (chL j).cnt = j ∧ (chL j).wf
  | 0 => ⟨rfl, rfl, rfl, trivial⟩
  | j + 1 => by
    obtain ⟨h1, h2, h3, h4⟩ := ch_facts j
    refine ⟨?_, ?_, ?_, ?_⟩
    · simp only [chL, F.ok, h1, ch_pure, Bool.and_true]
    · simp only [chL, F.dep, h2]; omega
    · simp only [chL, F.cnt, h3]; omega
    · exact ⟨⟨by decide, by decide⟩, h4, trivial⟩

theorem ch_may (j : Nat) (h : j ≤ 100) : vmay (chK j) 0 (chS j) (chL j) = decide (j + 1 ≤ 6) := by
  obtain ⟨h1, h2, h3, h4⟩ := ch_facts j
  unfold vmay vmayB
  rw [ch_pure, h1, h2, h3]
  simp only [Bool.true_and]
  rw [← Bool.decide_and]
  apply decide_eq_decide.2
  omega

theorem frame_bd (t e : ByteArray) (h : t.size ≤ 9999999) (he : e.size = 1) : 3 ≤ (frameS t e).size ∧ (frameS t e).size ≤ t.size + 9 := by
  rw [frameS_len t e h]
  have h1 := Lib.nDigits_pos t.size
  have h2 := nd_le 7 t.size (by decide) (by omega)
  omega

theorem ch_put : ∀ j : Nat, j ≤ 100 → 3 ≤ (putV (chK j) 0 (chS j) (chL j)).size ∧ (putV (chK j) 0 (chS j) (chL j)).size ≤ 10 + 9 * j
  | 0, _ => by
    have := frame_bd ⟨#[120]⟩ ⟨#[44]⟩ (by decide) rfl
    have e : (⟨#[120]⟩ : ByteArray).size = 1 := rfl
    show 3 ≤ (frameS ⟨#[120]⟩ ⟨#[44]⟩).size ∧ _
    refine ⟨this.1, ?_⟩
    show (frameS ⟨#[120]⟩ ⟨#[44]⟩).size ≤ _
    omega
  | j + 1, h => by
    have ih := ch_put j (by omega)
    have hp : putF (chL (j + 1)) ⟨#[]⟩ = some ((⟨#[]⟩ : ByteArray) ++ putV (chK j) 0 (chS j) (chL j)) := by
      show putF (.cons (chK j) 0 (chS j) (chL j) .nil) ⟨#[]⟩ = _
      have e0 : (⟨#[]⟩ : ByteArray).size = 0 := rfl
      rw [putF_cons, if_neg (by omega)]
      rfl
    have e0 : ((⟨#[]⟩ : ByteArray) ++ putV (chK j) 0 (chS j) (chL j)).size = (putV (chK j) 0 (chS j) (chL j)).size := by
      rw [ByteArray.size_append]
      show 0 + _ = _
      omega
    generalize putV (chK j) 0 (chS j) (chL j) = v at *
    have hv : putV (chK (j + 1)) 0 (chS (j + 1)) (chL (j + 1)) = frameS ((⟨#[]⟩ : ByteArray) ++ v) ⟨#[93]⟩ := by
      have hk : chK (j + 1) = 3 := by unfold chK; rw [if_neg (by omega)]
      rw [hk]
      unfold putV
      rw [if_neg (by decide), if_neg (by decide), hp]
    rw [hv]
    have := frame_bd ((⟨#[]⟩ : ByteArray) ++ v) ⟨#[93]⟩ (by omega) rfl
    omega

/-- Numbers one behind the other. -/
def nmL : Nat → F
  | 0 => .nil
  | n + 1 => (nmL n).app (.cons 1 n ⟨#[]⟩ .nil .nil)

theorem app_facts : ∀ (f g : F), (f.app g).ok = (f.ok && g.ok) ∧ (f.app g).dep = max f.dep g.dep ∧ (f.app g).cnt = f.cnt + g.cnt ∧ ((f.app g).wf ↔ f.wf ∧ g.wf)
  | .nil, g => by simp [F.app, F.ok, F.dep, F.cnt, F.wf]
  | .cons k n s l r, g => by
    obtain ⟨h1, h2, h3, h4⟩ := app_facts r g
    refine ⟨?_, ?_, ?_, ?_⟩
    · simp only [F.app, F.ok, h1, Bool.and_assoc]
    · simp only [F.app, F.dep, h2]; omega
    · simp only [F.app, F.cnt, h3]; omega
    · simp only [F.app, F.wf, h4, and_assoc]

theorem app_put : ∀ (f g : F) (acc : ByteArray), putF (f.app g) acc = (putF f acc).bind (putF g)
  | .nil, g, acc => rfl
  | .cons k n s l r, g, acc => by
    simp only [F.app, putF_cons]
    split
    · rfl
    · exact app_put r g _

theorem nm_len : ∀ n : Nat, (nmL n).len = n
  | 0 => rfl
  | n + 1 => by
    unfold nmL
    rw [F.app_len, nm_len n]
    rfl

theorem nm_facts : ∀ n : Nat, n ≤ 10000 → (nmL n).ok = true ∧ (nmL n).dep ≤ 1 ∧ (nmL n).cnt = n ∧ (nmL n).wf
  | 0, _ => ⟨rfl, by decide, rfl, trivial⟩
  | n + 1, h => by
    obtain ⟨h1, h2, h3, h4⟩ := nm_facts n (by omega)
    obtain ⟨a1, a2, a3, a4⟩ := app_facts (nmL n) (.cons 1 n ⟨#[]⟩ .nil .nil)
    have hok : (F.cons 1 n ⟨#[]⟩ .nil .nil).ok = true := by simp [F.ok, pureB, F.len]
    have hdp : (F.cons 1 n ⟨#[]⟩ .nil .nil).dep = 1 := by simp [F.dep]
    have hct : (F.cons 1 n ⟨#[]⟩ .nil .nil).cnt = 1 := by simp [F.cnt]
    unfold nmL
    rw [a1, a2, a3, a4, h1, h3, hok, hdp, hct]
    exact ⟨rfl, by omega, rfl, h4, ⟨by omega, by omega⟩, trivial, trivial⟩

theorem nm_may (n : Nat) (h : n ≤ 10000) : vmay 3 0 ⟨#[]⟩ (nmL n) = decide (n ≤ 5999) := by
  obtain ⟨h1, h2, h3, h4⟩ := nm_facts n h
  unfold vmay vmayB
  have hp : pureB 3 0 ⟨#[]⟩ (nmL n).len = true := by unfold pureB; simp
  rw [hp, h1, h3]
  simp only [Bool.true_and]
  rw [← Bool.decide_and]
  apply decide_eq_decide.2
  omega

theorem nm_put : ∀ n : Nat, n ≤ 10000 → ∃ T, putF (nmL n) ⟨#[]⟩ = some T ∧ T.size ≤ 40 * n
  | 0, _ => ⟨⟨#[]⟩, rfl, Nat.le_refl 0⟩
  | n + 1, h => by
    obtain ⟨T, h1, h2⟩ := nm_put n (by omega)
    unfold nmL
    rw [app_put, h1]
    show ∃ T', putF (.cons 1 n ⟨#[]⟩ .nil .nil) T = some T' ∧ _
    have hd := decS_size (n : Int) (by omega) (by omega)
    have hb := frame_bd (decS (n : Int)) ⟨#[35]⟩ (by omega) rfl
    have hv : putV 1 (n : Int) ⟨#[]⟩ .nil = frameS (decS (n : Int)) ⟨#[35]⟩ := by unfold putV; rw [if_pos rfl]
    rw [putF_cons, hv, if_neg (by omega)]
    refine ⟨_, rfl, ?_⟩
    rw [ByteArray.size_append]
    omega

theorem nm_putV (n : Nat) (h : n ≤ 10000) : 3 ≤ (putV 3 0 ⟨#[]⟩ (nmL n)).size := by
  obtain ⟨T, h1, h2⟩ := nm_put n h
  unfold putV
  rw [if_neg (by decide), if_neg (by decide), h1]
  exact (frame_bd T ⟨#[93]⟩ (by omega) rfl).1

end Go.Proofs.YtamennoehnigaaaDoor
