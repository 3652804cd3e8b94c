/-
 Contracts of the program, and what they rest on.
-/
import Derived.Lib.QuietBelow
import Derived.Deep.RegionWith
import Derived.Test.YtoealjcjpjapkaaGreatDoorRA
import Derived.Test.YtoealjcjpjapkaaGreatDoorRefP
import Derived.Test.YtoealjcjpjapkaaGreatDoorBack
set_option maxRecDepth 100000
set_option maxHeartbeats 16000000
namespace Go.Proofs.YtoealjcjpjapkaaGreatDoor
open Go.RowKit
def EqrQ (k n : Int) (s : ByteArray) (l : F) : Prop := ∀ (ad ad2 : Option Addr) (cap cap2 : Nat) (w : World), l.len * 56 ≤ 140737488355328 → l.fit → RepS w ad l → RepS w ad2 l →
 Calls Tryz.prog 28 #[.agg #[.int .i64 k, .int .i64 n, .string s, .slice ad l.len cap], .agg #[.int .i64 k, .int .i64 n, .string s, .slice ad2 l.len cap2]] w fun e w' => e = .returned (.bool true) ∧ Below w.heap.size w w'
def EqrRel (w : World) (l : F) (ad ad2 : Option Addr) (cap cap2 : Nat) (iv : Value) (wr : World) : Prop :=
 ∃ (i : Nat) (g : F), iv = .int .i64 i ∧ i + g.len = l.len ∧ Hid (g.All EqrQ ∧ g.fit) ∧ (g = .nil ∨ ∃ b o, ad = some ⟨b, o, none⟩ ∧ RepF wr b (o + i * 4) g) ∧ (g = .nil ∨ ∃ b o, ad2 = some ⟨b, o, none⟩ ∧ RepF wr b (o + i * 4) g) ∧
  wr.cell? ⟨w.heap.size, 3, none⟩ = some (.slice ad l.len cap) ∧ wr.cell? ⟨w.heap.size + 1, 3, none⟩ = some (.slice ad2 l.len cap2) ∧ Hid (Below w.heap.size w wr)
theorem eqr_q (k n : Int) (s : ByteArray) (l : F) (hl : l.All EqrQ) : EqrQ k n s l := by
 intro ad ad2 cap cap2 w hfit0 hfit hr hr2
 have HL := Lib.hid (And.intro hl hfit)
 have HR := Lib.hid (And.intro hr hr2)
 have hmax : (l.len : Int) ≤ 2513169434917 := by omega
 clear hl hfit hr hr2 hfit0
 go_enter Tryz.func28, Tryz.ntmps28
 go_wp2_with fail
 go_loopw [5] (fun iv wr => EqrRel w l ad ad2 cap cap2 iv wr) (fun iv _ => l.len - (intOf iv).toNat)
 case atStart =>
  have hb : Below w.heap.size w ((w.alloc (.cells #[.int .i64 k, .int .i64 n, .string s, .slice ad l.len cap] 45)).alloc (.cells #[.int .i64 k, .int .i64 n, .string s, .slice ad2 l.len cap2] 45)) := ((Below.refl _ _).alloc (Nat.le_refl _) _).alloc (by simp) _
  refine ⟨0, l, rfl, by omega, HL, ?_, ?_, ?_, ?_, Lib.hid hb⟩
  ·rcases HR.out.1 with h | ⟨b, o, e, h⟩
   ·exact .inl h
   ·exact .inr ⟨b, o, e, by simpa using RepF.kept hb (Nat.le_refl _) l _ _ h⟩
  ·rcases HR.out.2 with h | ⟨b, o, e, h⟩
   ·exact .inl h
   ·exact .inr ⟨b, o, e, by simpa using RepF.kept hb (Nat.le_refl _) l _ _ h⟩
  ·go_simp
  ·go_simp
 case round =>
  obtain ⟨i, g, rfl, hil, HG, hG1, hG2, c3, d3, HB⟩ := hrel
  cases g with
  | nil =>
   have hlt : ¬ (i : Int) < (l.len : Int) := by simp only [F.len] at hil; omega
   clear hG1 hG2
   go_wp2_with fail
   go_ret
   exact ⟨rfl, HB.out⟩
  | cons k' n' s' l' r' =>
   have hlt : (i : Int) < (l.len : Int) := by simp only [F.len] at hil; omega
   have hlt' : i < l.len := by omega
   obtain ⟨b, o, rfl, g0, g1, g2, ⟨ad', cap', g3, g4⟩, g5⟩ := hG1.resolve_left (by simp)
   obtain ⟨b2, o2, rfl, f0, f1, f2, ⟨ad2', cap2', f3, f4⟩, f5⟩ := hG2.resolve_left (by simp)
   obtain ⟨⟨hq, hQr⟩, ⟨hf1, hf2⟩, hfr⟩ := HG.out
   have HQ := Lib.hid hq
   have HNX := Lib.hid (And.intro hQr (And.intro hfr (And.intro g5 f5)))
   have HLEN := Lib.hid (show i + 1 + r'.len = l.len by simp only [F.len] at hil; omega)
   have H4 := Lib.hid (And.intro (show RepS wr ad' l' from g4) (show RepS wr ad2' l' from f4))
   have HF := Lib.hid (And.intro hf1 hf2)
   clear hq hQr hfr g5 f5 g4 f4 hf1 hf2 HG hil
   go_wp2_with fail
   have q3 := cell_regrown c3
   have r3 := cell_regrown d3
   have u0 := cell_regrown (show wr.cell? ⟨b, o + i * 4 + 0, none⟩ = some (.int .i64 k') from g0)
   have u00 := cell_regrown g0
   have v00 := cell_regrown f0
   have u1 := cell_regrown g1
   have u2 := cell_regrown g2
   have u3 := cell_regrown g3
   have v0 := cell_regrown (show wr.cell? ⟨b2, o2 + i * 4 + 0, none⟩ = some (.int .i64 k') from f0)
   have v1 := cell_regrown f1
   have v2 := cell_regrown f2
   have v3 := cell_regrown f3
   have y := Lib.hid (fun d os => Calls.regrown_of (w := wr) (d := d) (os := os) (HQ.out ad' ad2' cap' cap2' _ HF.out.1 HF.out.2 (H4.out.1.below (below_regrown wr d os)) (H4.out.2.below (below_regrown wr d os))))
   refine wp_region_quiet_below (by kernel_rfl) (by kernel_rfl) ?_
   repeat (quiet_step (first | (go_at_call 28; exact y.out _ _)))
   refine wpQuiet_nil ?_
   intro _ hw'
   obtain ⟨⟨dq, osq⟩, hw''⟩ := hw'
   subst hw''
   have hB3 := below_regrown wr dq osq
   have e3 : (Go.Sort.grow (redrawn wr dq) osq).cell? ⟨w.heap.size, 3, none⟩ = some (.slice (some ⟨b, o, none⟩) l.len cap) := q3 _ _
   have e4 : (Go.Sort.grow (redrawn wr dq) osq).cell? ⟨w.heap.size + 1, 3, none⟩ = some (.slice (some ⟨b2, o2, none⟩) l.len cap2) := r3 _ _
   have HE := Lib.hid (And.intro (RepF.kept hB3 (Nat.le_refl _) _ _ _ HNX.out.2.2.1) (And.intro (RepF.kept hB3 (Nat.le_refl _) _ _ _ HNX.out.2.2.2) (HB.out.trans (hB3.mono HB.out.size))))
   clear q3 r3 u00 v00 u0 u1 u2 u3 v0 v1 v2 v3 y g0 g1 g2 g3 f0 f1 f2 f3 c3 d3 hB3
   generalize Go.Sort.grow (redrawn wr dq) osq = W3 at *
   go_wp2_with fail
   go_roundw
   case rel =>
    refine ⟨i + 1, r', by go_num, HLEN.out, Lib.hid ⟨HNX.out.1, HNX.out.2.1⟩, .inr ⟨b, o, rfl, ?_⟩, .inr ⟨b2, o2, rfl, ?_⟩, e3, e4, Lib.hid HE.out.2.2⟩
    ·rw [show o + (i + 1) * 4 = o + i * 4 + 4 by omega]; exact HE.out.1
    ·rw [show o2 + (i + 1) * 4 = o2 + i * 4 + 4 by omega]; exact HE.out.2.1
   case measure => simp [intOf]; omega
theorem eqr_all (f : F) : f.All EqrQ := F.all_of eqr_q f
theorem eqr_p (k n : Int) (s : ByteArray) (l : F) : EqrQ k n s l := eqr_q k n s l (eqr_all l)
end Go.Proofs.YtoealjcjpjapkaaGreatDoor
