/-
  What a put by a condition comes to in a book of one key.
-/
import Derived.Test.YtoealjcjpjapkaaGreatDoorM35
import Derived.Test.YtoealjcjpjapkaaGreatDoorM25
import Derived.Test.YtoealjcjpjapkaaGreatDoorM03
namespace Go.Proofs.YtoealjcjpjapkaaGreatDoor
open Go.RowKit

theorem doB_yes {s : Bk} {d : De} (h : bmay s = true) (hq : ¬ s.seq = 1099511627776) (hl : ¬ d.req < s.low (homeP d.req)) (ht : toldB s.ms d.req = none) (hf : ¬ s.ms.length = 100) :
    doB s d true = (forgetB { s with seq := s.seq + 1, l := (changeB s.l (s.seq + 1) d).1, ms := keepM s.ms ⟨d.req, (changeB s.l (s.seq + 1) d).2⟩ } (homeP d.req) d.low, (changeB s.l (s.seq + 1) d).2) := by
  unfold doB
  rw [h, if_neg (by simp), if_neg hq, if_neg hl, ht]
  dsimp only
  rw [if_neg hf]

def ck : ByteArray := ⟨#[107]⟩
def cs1 (B : ByteArray) : Bk := ⟨1, [⟨⟨#[107]⟩, [⟨1, false, B⟩]⟩], [⟨4294967297, ⟨0, 1⟩⟩], 0, 0, 0, 0, 0⟩
def cs2 (B : ByteArray) : Bk := ⟨2, [⟨⟨#[107]⟩, [⟨1, false, B⟩, ⟨2, true, ⟨#[]⟩⟩]⟩], [⟨4294967297, ⟨0, 1⟩⟩, ⟨4294967298, ⟨0, 2⟩⟩], 0, 0, 0, 0, 0⟩
def cdp (B : ByteArray) : De := ⟨1, ⟨#[107]⟩, B, 0, 0, ⟨#[]⟩, 4294967297, 0⟩
def cda : De := ⟨1, ⟨#[107]⟩, ⟨#[]⟩, 0, 1, ⟨#[]⟩, 4294967305, 0⟩
def cdm (T : ByteArray) : De := ⟨1, ⟨#[107]⟩, ⟨#[]⟩, 0, 2, T, 4294967305, 0⟩

theorem cdp_may {B : ByteArray} (h : B.size ≤ 300) : mayD (cdp B) := ⟨(by decide +kernel : keyB ⟨#[107]⟩ = true), (by decide +kernel : homeP 4294967297 ≠ 0), (by decide : (0 : Int) ≤ 0), (by decide : (0 : Int) ≤ 4294967297), .inl ⟨rfl, h, rfl, .inl ⟨.inl rfl, rfl⟩⟩⟩
theorem cda_may : mayD cda := ⟨by decide +kernel, by decide +kernel, by decide, by decide, .inl ⟨rfl, by decide, rfl, .inl ⟨.inr rfl, rfl⟩⟩⟩
theorem cdm_may {T : ByteArray} (h : ∃ p, IsText T p) : mayD (cdm T) := ⟨(by decide +kernel : keyB ⟨#[107]⟩ = true), (by decide +kernel : homeP 4294967305 ≠ 0), (by decide : (0 : Int) ≤ 0), (by decide : (0 : Int) ≤ 4294967305), .inl ⟨rfl, (by decide : (⟨#[]⟩ : ByteArray).size ≤ 300), rfl, .inr ⟨rfl, h⟩⟩⟩
theorem cdp_wf (B : ByteArray) : (cdp B).wf := by unfold De.wf cdp; dsimp only; decide
theorem cda_wf : cda.wf := by unfold De.wf cda; decide
theorem cdm_wf (T : ByteArray) : (cdm T).wf := by unfold De.wf cdm; dsimp only; decide

theorem bmay_of {s : Bk} (h1 : mayEs s.seq s.l = true) (h0 : (decide (0 ≤ s.seq) && decide (s.seq ≤ 1099511627776)) = true) (h2 : mayMs s = true) (h3 : mayLs s = true) : bmay s = true := by
  unfold bmay
  rw [h0, h1, h2, h3]
  rfl

theorem cs1_may {B : ByteArray} (h : B.size ≤ 300) : bmay (cs1 B) = true := by
  have hp : pureV ⟨1, false, B⟩ = true := decide_eq_true h
  refine bmay_of ?_ rfl (by kernel_rfl) (by kernel_rfl)
  unfold mayEs cs1
  dsimp only [riseE, mayE, riseV]
  rw [hp]
  kernel_rfl

theorem cs2_may {B : ByteArray} (h : B.size ≤ 300) : bmay (cs2 B) = true := by
  have hp : pureV ⟨1, false, B⟩ = true := decide_eq_true h
  refine bmay_of ?_ rfl (by kernel_rfl) (by kernel_rfl)
  unfold mayEs cs2
  dsimp only [riseE, mayE, riseV]
  rw [hp]
  kernel_rfl

theorem cs1_do (B : ByteArray) : doB Bk.zero (cdp B) true = (cs1 B, ⟨0, 1⟩) := by kernel_rfl
theorem cs2_do {B : ByteArray} (h : B.size ≤ 300) : doB (cs1 B) bd1 true = (cs2 B, ⟨0, 2⟩) := by
  rw [doB_yes (cs1_may h) (of_decide_eq_true (by kernel_rfl)) (of_decide_eq_true (by kernel_rfl)) (by kernel_rfl) (of_decide_eq_true (by kernel_rfl))]
  kernel_rfl

theorem cz_abs : (doB Bk.zero cda true).2 = ⟨0, 1⟩ := by kernel_rfl
theorem c1_abs {B : ByteArray} (h : B.size ≤ 300) : (doB (cs1 B) cda true).2 = ⟨9, 0⟩ := by
  rw [doB_yes (cs1_may h) (of_decide_eq_true (by kernel_rfl)) (of_decide_eq_true (by kernel_rfl)) (by kernel_rfl) (of_decide_eq_true (by kernel_rfl))]
  kernel_rfl
theorem c2_abs {B : ByteArray} (h : B.size ≤ 300) : (doB (cs2 B) cda true).2 = ⟨0, 3⟩ := by
  rw [doB_yes (cs2_may h) (of_decide_eq_true (by kernel_rfl)) (of_decide_eq_true (by kernel_rfl)) (by kernel_rfl) (of_decide_eq_true (by kernel_rfl))]
  kernel_rfl

theorem cz_mat (T : ByteArray) : (doB Bk.zero (cdm T) true).2 = ⟨9, 0⟩ := by kernel_rfl
theorem c1_mat {B T : ByteArray} (h : B.size ≤ 300) : (doB (cs1 B) (cdm T) true).2 = if ((tagS B).toList == T.toList) = true then ⟨0, 2⟩ else ⟨9, 0⟩ := by
  rw [doB_yes (cs1_may h) (of_decide_eq_true (by kernel_rfl)) (of_decide_eq_true (by kernel_rfl)) (by kernel_rfl) (of_decide_eq_true (by kernel_rfl))]
  dsimp only
  have hh : ∀ (b : Bool), holdsE [⟨1, false, B⟩] 2 T = b → (changeB (cs1 B).l ((cs1 B).seq + 1) (cdm T)).2 = if b = true then ⟨0, 2⟩ else ⟨9, 0⟩ := fun b hb => by
    have : (changeB (cs1 B).l ((cs1 B).seq + 1) (cdm T)) = if holdsE [⟨1, false, B⟩] 2 T = true then addK (cs1 B).l 0 ⟨⟨#[107]⟩, [⟨1, false, B⟩]⟩ ⟨2, false, ⟨#[]⟩⟩ else ((cs1 B).l, ⟨9, 0⟩) := by kernel_rfl
    rw [this, hb]
    cases b with
    | false => exact (by kernel_rfl : ((cs1 B).l, (⟨9, 0⟩ : Rs)).2 = ⟨9, 0⟩)
    | true => exact (by kernel_rfl : (addK (cs1 B).l 0 ⟨⟨#[107]⟩, [⟨1, false, B⟩]⟩ ⟨2, false, ⟨#[]⟩⟩).2 = ⟨0, 2⟩)
  exact hh _ (by unfold holdsE; simp [nowE])
theorem c2_mat {B T : ByteArray} (h : B.size ≤ 300) : (doB (cs2 B) (cdm T) true).2 = ⟨9, 0⟩ := by
  rw [doB_yes (cs2_may h) (of_decide_eq_true (by kernel_rfl)) (of_decide_eq_true (by kernel_rfl)) (by kernel_rfl) (of_decide_eq_true (by kernel_rfl))]
  kernel_rfl

theorem c_wf4 {s : Bk} (h : isI s.seq ∧ (∀ e ∈ s.l, ∀ v ∈ e.vs, isI v.ver) ∧ (∀ m ∈ s.ms, isI m.req ∧ isI m.res.err ∧ isI m.res.ver) ∧ ∀ n ∈ lowL s, isI n) : s.wf := (bk_wf4 s h).wf
theorem cs1_wf (B : ByteArray) : (cs1 B).wf := c_wf4 (by unfold cs1 isI lowL; simp)
theorem cs2_wf (B : ByteArray) : (cs2 B).wf := c_wf4 (by unfold cs2 isI lowL; simp)

/-- The tag of a text is a mark's. -/
theorem tag_isText (B : ByteArray) : ∃ p, IsText (tagS B) p := ⟨_, Cpl.ok_gon (by unfold Cpl.Ok; decide) _, rfl⟩

end Go.Proofs.YtoealjcjpjapkaaGreatDoor
