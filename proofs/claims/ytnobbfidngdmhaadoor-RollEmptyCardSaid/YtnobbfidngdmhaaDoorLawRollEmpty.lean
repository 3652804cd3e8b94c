/-
  RollEmpty answers true.
-/
import Derived.Test.YtnobbfidngdmhaaDoorBegun3
namespace Go.Proofs.YtnobbfidngdmhaaDoor
open Go.RowKit Go.Maps Go.Proofs.MapD Go.Proofs.Chest

def e1 : St := ⟨10, [(⟨#[65]⟩, ⟨⟨#[]⟩, 0, false⟩)]⟩
def e2 : St := ⟨10, [(⟨#[65]⟩, ⟨⟨#[]⟩, 0, true⟩)]⟩
def e3 : St := ⟨10, [(⟨#[66]⟩, ⟨⟨#[]⟩, 0, true⟩)]⟩

theorem y_new : (⟨(min (max (10 : Int) 0) 1048576).toNat, []⟩ : St) = ⟨10, []⟩ := by kernel_rfl
theorem y_w : write ⟨10, []⟩ ⟨#[65]⟩ ⟨#[]⟩ = (0, e1) := by kernel_rfl
theorem y_p : press e1 ⟨#[65]⟩ = (0, e2) := by kernel_rfl
theorem y_c : cut e1 ⟨#[65]⟩ 0 = (0, e2) := by kernel_rfl
theorem y_k : call e1 ⟨#[65]⟩ ⟨#[66]⟩ = (0, e3) := by kernel_rfl
theorem y_r1 : readS e1 ⟨#[65]⟩ = (⟨#[]⟩, true) := by kernel_rfl
theorem y_r2 : readS e2 ⟨#[65]⟩ = (⟨#[]⟩, true) := by kernel_rfl
theorem y_r3 : readS e3 ⟨#[66]⟩ = (⟨#[]⟩, true) := by kernel_rfl

theorem stays_e (s : Bool) (n : Int) : stays ⟨⟨#[]⟩, 0, s⟩ n = 0 := by
  unfold stays
  have : (⟨#[]⟩ : ByteArray).size = 0 := rfl
  simp only [this]
  omega

theorem y_t1 (n : Int) : readS (tear e1 n) ⟨#[65]⟩ = (⟨#[]⟩, false) := by
  have : (tear e1 n).l = [] := by
    unfold tear e1 torn
    simp [stays_e]
  unfold readS
  rw [this]
  rfl

theorem y_t2 (n : Int) : readS (tear e2 n) ⟨#[65]⟩ = (⟨#[]⟩, true) := by
  have : (tear e2 n).l = [(⟨#[65]⟩, ⟨(⟨#[]⟩ : ByteArray).extract 0 0, 0, true⟩)] := by
    unfold tear e2 torn
    simp [stays_e]
  unfold readS
  rw [this]
  rfl

theorem y_t3 (n : Int) : readS (tear e3 n) ⟨#[66]⟩ = (⟨#[]⟩, true) := by
  have : (tear e3 n).l = [(⟨#[66]⟩, ⟨(⟨#[]⟩ : ByteArray).extract 0 0, 0, true⟩)] := by
    unfold tear e3 torn
    simp [stays_e]
  unfold readS
  rw [this]
  rfl

theorem and3 (how : Int) : ∃ q : Nat, q ≤ 3 ∧ bits BinOp.and IntKind.i64 how 3 = q := by
  have hle : (BitVec.ofInt 64 how &&& BitVec.ofInt 64 3).toNat ≤ 3 := by
    rw [BitVec.toNat_and]
    exact Nat.and_le_right
  refine ⟨(BitVec.ofInt 64 how &&& BitVec.ofInt 64 3).toNat, hle, ?_⟩
  show IntKind.i64.wrap ((BitVec.ofInt 64 how &&& BitVec.ofInt 64 3).toNat : Int) = _
  exact IntWalk.i64_in _ (by omega)

set_option maxRecDepth 100000 in
set_option maxHeartbeats 4000000 in
theorem rollEmpty_walk (how n : Int) (w : World) (hbg : BegunTrue3) (h : LibAt w) :
    Calls Tryd.prog 5 #[.int .i64 how, .int .i64 n] w fun e w' => e = .returned (.bool true) ∧ Below w.heap.size w w' := by
  have HB := Lib.hid (hbg w h)
  obtain ⟨q, hq3, hq⟩ := and3 how
  clear hbg h
  rcases q with _ | _ | _ | _ | q
  · simp only [Int.natCast_zero] at hq
    go_enter Tryd.func5, Tryd.ntmps5
    go_wp2_with fail
    refine HB.out.mono ?_
    rintro _ w1 ⟨rfl, hb⟩
    have HB1 := Lib.hid hb
    clear hb
    go_wp2_with fail
    refine (new_c 10 HB1.out).mono ?_
    rintro _ w2 ⟨c, rfl, h2⟩
    rw [y_new] at h2
    have H2 := Lib.hid h2
    clear h2
    go_wp2_with fail
    refine (write_c H2.out (by decide) ⟨#[65]⟩ ⟨#[]⟩ (by decide)).mono ?_
    rintro _ w3 ⟨rfl, h3⟩
    rw [y_w] at h3 ⊢
    have H3 := Lib.hid h3
    clear h3
    go_wp2_with fail
    refine (read_c H3.out ⟨#[65]⟩ (by decide)).mono ?_
    rintro _ _ ⟨rfl, rfl⟩
    rw [y_r1]
    go_wp2_with fail
    refine (tear_c H3.out (by decide) n).mono ?_
    rintro _ w5 ⟨d, rfl, h5, h5'⟩
    have H5 := Lib.hid h5
    have H5' := Lib.hid h5'
    clear h5 h5'
    go_wp2_with fail
    refine (read_c H5'.out ⟨#[65]⟩ (by decide)).mono ?_
    rintro _ _ ⟨rfl, rfl⟩
    rw [y_t1]
    go_wp2_with fail
    go_ret
    exact ⟨rfl, H5.out.2⟩
  · simp only [Nat.zero_add, Int.natCast_one] at hq
    go_enter Tryd.func5, Tryd.ntmps5
    go_wp2_with fail
    refine HB.out.mono ?_
    rintro _ w1 ⟨rfl, hb⟩
    have HB1 := Lib.hid hb
    clear hb
    go_wp2_with fail
    refine (new_c 10 HB1.out).mono ?_
    rintro _ w2 ⟨c, rfl, h2⟩
    rw [y_new] at h2
    have H2 := Lib.hid h2
    clear h2
    go_wp2_with fail
    refine (write_c H2.out (by decide) ⟨#[65]⟩ ⟨#[]⟩ (by decide)).mono ?_
    rintro _ w3 ⟨rfl, h3⟩
    rw [y_w] at h3 ⊢
    have H3 := Lib.hid h3
    clear h3
    go_wp2_with fail
    refine (press_c H3.out ⟨#[65]⟩ (by decide)).mono ?_
    rintro _ w4 ⟨rfl, h4⟩
    rw [y_p] at h4
    have H4 := Lib.hid h4
    clear h4
    go_wp2_with fail
    refine (read_c H4.out ⟨#[65]⟩ (by decide)).mono ?_
    rintro _ _ ⟨rfl, rfl⟩
    rw [y_r2]
    go_wp2_with fail
    refine (tear_c H4.out (by decide) n).mono ?_
    rintro _ w5 ⟨d, rfl, h5, h5'⟩
    have H5 := Lib.hid h5
    have H5' := Lib.hid h5'
    clear h5 h5'
    go_wp2_with fail
    refine (read_c H5'.out ⟨#[65]⟩ (by decide)).mono ?_
    rintro _ _ ⟨rfl, rfl⟩
    rw [y_t2]
    go_wp2_with fail
    go_ret
    exact ⟨rfl, H5.out.2⟩
  · have hq : bits BinOp.and IntKind.i64 how 3 = 2 := hq
    go_enter Tryd.func5, Tryd.ntmps5
    go_wp2_with fail
    refine HB.out.mono ?_
    rintro _ w1 ⟨rfl, hb⟩
    have HB1 := Lib.hid hb
    clear hb
    go_wp2_with fail
    refine (new_c 10 HB1.out).mono ?_
    rintro _ w2 ⟨c, rfl, h2⟩
    rw [y_new] at h2
    have H2 := Lib.hid h2
    clear h2
    go_wp2_with fail
    refine (write_c H2.out (by decide) ⟨#[65]⟩ ⟨#[]⟩ (by decide)).mono ?_
    rintro _ w3 ⟨rfl, h3⟩
    rw [y_w] at h3 ⊢
    have H3 := Lib.hid h3
    clear h3
    go_wp2_with fail
    refine (cut_c H3.out ⟨#[65]⟩ (by decide) 0).mono ?_
    rintro _ w4 ⟨rfl, h4⟩
    rw [y_c] at h4
    have H4 := Lib.hid h4
    clear h4
    go_wp2_with fail
    refine (read_c H4.out ⟨#[65]⟩ (by decide)).mono ?_
    rintro _ _ ⟨rfl, rfl⟩
    rw [y_r2]
    go_wp2_with fail
    refine (tear_c H4.out (by decide) n).mono ?_
    rintro _ w5 ⟨d, rfl, h5, h5'⟩
    have H5 := Lib.hid h5
    have H5' := Lib.hid h5'
    clear h5 h5'
    go_wp2_with fail
    refine (read_c H5'.out ⟨#[65]⟩ (by decide)).mono ?_
    rintro _ _ ⟨rfl, rfl⟩
    rw [y_t2]
    go_wp2_with fail
    go_ret
    exact ⟨rfl, H5.out.2⟩
  · have hq : bits BinOp.and IntKind.i64 how 3 = 3 := hq
    go_enter Tryd.func5, Tryd.ntmps5
    go_wp2_with fail
    refine HB.out.mono ?_
    rintro _ w1 ⟨rfl, hb⟩
    have HB1 := Lib.hid hb
    clear hb
    go_wp2_with fail
    refine (new_c 10 HB1.out).mono ?_
    rintro _ w2 ⟨c, rfl, h2⟩
    rw [y_new] at h2
    have H2 := Lib.hid h2
    clear h2
    go_wp2_with fail
    refine (write_c H2.out (by decide) ⟨#[65]⟩ ⟨#[]⟩ (by decide)).mono ?_
    rintro _ w3 ⟨rfl, h3⟩
    rw [y_w] at h3 ⊢
    have H3 := Lib.hid h3
    clear h3
    go_wp2_with fail
    refine (call_c H3.out (by decide) ⟨#[65]⟩ ⟨#[66]⟩ (by decide) (by decide)).mono ?_
    rintro _ w4 ⟨rfl, h4⟩
    rw [y_k] at h4
    have H4 := Lib.hid h4
    clear h4
    go_wp2_with fail
    refine (read_c H4.out ⟨#[66]⟩ (by decide)).mono ?_
    rintro _ _ ⟨rfl, rfl⟩
    rw [y_r3]
    go_wp2_with fail
    refine (tear_c H4.out (by decide) n).mono ?_
    rintro _ w5 ⟨d, rfl, h5, h5'⟩
    have H5 := Lib.hid h5
    have H5' := Lib.hid h5'
    clear h5 h5'
    go_wp2_with fail
    refine (read_c H5'.out ⟨#[66]⟩ (by decide)).mono ?_
    rintro _ _ ⟨rfl, rfl⟩
    rw [y_t3]
    go_wp2_with fail
    go_ret
    exact ⟨rfl, H5.out.2⟩
  · omega

end Go.Proofs.YtnobbfidngdmhaaDoor
