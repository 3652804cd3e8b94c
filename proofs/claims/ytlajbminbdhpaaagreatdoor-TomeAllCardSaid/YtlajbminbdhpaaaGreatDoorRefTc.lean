/-
 Contracts of the program, and what they rest on.
-/
import Derived.Test.YtlajbminbdhpaaaGreatDoorM10
import Derived.Test.YtlajbminbdhpaaaGreatDoorM08
import Derived.BigQuiet
import Derived.Test.YtlajbminbdhpaaaGreatDoorRefTb
set_option maxRecDepth 100000
set_option maxHeartbeats 16000000
namespace Go.Proofs.YtlajbminbdhpaaaGreatDoor
open Go.RowKit
def REnt (key : ByteArray) (r : List Ve × Bool) (w : World) (e : Ending) (w' : World) : Prop :=
 ∃ ad cap, e = .returned (.tuple #[.agg #[.string key, .slice ad r.1.length cap], .bool r.2]) ∧ VsAt w' (.slice ad r.1.length cap) r.1 ∧ Below w.heap.size w w'
theorem radd_no (key : ByteArray) (v : Value) (l : List Ve) (x : Ve) (w : World) (h : VsAt w v l) (hn : l.length ≤ 1000000) (hm : mayAdd l x.ver = false) :
  Calls Tryz.prog 12 #[.agg #[.string key, v], .agg #[.int .i64 x.ver, .bool x.gone, .string x.body]] w (REnt key (l, false) w) := by
 obtain ⟨ad, cap, rfl, _⟩ := h.shape
 have HB := Lib.hid (w3_below w key ad l.length cap x 24 26)
 have h1 := w3_ec w key ad l.length cap x 24 26
 have h2 := w3_vc w key ad l.length cap x 24 26
 have h3 := w3_er w key ad l.length cap x 24 26
 have HV := Lib.hid (h.below HB.out)
 unfold w3 at HB h1 h2 h3 HV
 have HGW : Hid (∀ j, (Value.slice ad l.length cap).ownBlock = some j → j < w.heap.size) := Lib.hid (fun j hj => by
  rcases h with ⟨e, _⟩ | ⟨g', o', cap', e, _, _, hlt, _⟩
  ·rw [e] at hj; cases hj
  ·rw [e] at hj; cases hj; exact hlt)
 have hcase := mayAdd_no hm
 clear hm h
 rcases hcase with h12 | ⟨y, k, hk, hk12, hy, hle⟩
 ·have h12z : (12 : Int) ≤ (l.length : Int) := by omega
  go_enter Tryz.func12, Tryz.ntmps12
  go_wp2_with fail
  generalize ((w.alloc (.cells #[.string key, .slice ad l.length cap] 24)).alloc (.cells #[.int .i64 x.ver, .bool x.gone, .string x.body] 26)).alloc (.cells #[.string ⟨#[]⟩, .slice none 0 0] 24) = W at *
  obtain ⟨⟨c0, c1⟩, f0, f1⟩ := h1
  obtain ⟨⟨r0, r1⟩, g0, g1⟩ := h3
  go_quiet (fail)
  go_wp2_with fail
  have hgne := HGW.out
  have t0 : (((W.drewN nq).setCell ⟨w.heap.size + 1 + 1, 0, none⟩ (.string key)).setCell ⟨w.heap.size + 1 + 1, 1, none⟩ (.slice ad l.length cap)).cell? ⟨w.heap.size + 1 + 1, 0, none⟩ = some (.string key) := by go_simp
  have t1 : (((W.drewN nq).setCell ⟨w.heap.size + 1 + 1, 0, none⟩ (.string key)).setCell ⟨w.heap.size + 1 + 1, 1, none⟩ (.slice ad l.length cap)).cell? ⟨w.heap.size + 1 + 1, 1, none⟩ = some (.slice ad l.length cap) := by go_simp
  have hV := HV.out.kept (w' := ((W.drewN nq).setCell ⟨w.heap.size + 1 + 1, 0, none⟩ (.string key)).setCell ⟨w.heap.size + 1 + 1, 1, none⟩ (.slice ad l.length cap)) (by simp) (fun j hj => by
   have := hgne j hj
   rw [Below.heap_setCell _ _ _ _ (by simp; omega), Below.heap_setCell _ _ _ _ (by simp; omega)]
   rfl)
  have hB := ((below_drewN HB.out nq).setCell (p := ⟨w.heap.size + 1 + 1, 0, none⟩) (by simp; omega) (.string key)).setCell (p := ⟨w.heap.size + 1 + 1, 1, none⟩) (by simp; omega) (.slice ad l.length cap)
  exact bodyPost_ret (v := .tuple #[.agg #[.string key, .slice ad l.length cap], .bool false]) (by simp [results, Tryz.results12, go_sem, t0, t1]) rfl ⟨ad, cap, rfl, hV, hB⟩
 ·obtain ⟨g, o, rfl, y0, y1, y2, hg⟩ := HV.out.get hy
  have hkz : (l.length : Int) = (k : Int) + 1 := by omega
  have h12z : decide ((12 : Int) ≤ (k : Int) + 1) = false := decide_eq_false (by omega)
  have hk0 : (0 : Int) < (k : Int) + 1 := by omega
  have hwk : IntKind.i64.wrap (k : Int) = (k : Int) := IntWalk.i64_in _ (by omega)
  have hi0 : (0 : Int) ≤ (k : Int) := by omega
  have hi1 : (k : Int) < (k : Int) + 1 := by omega
  have hi2 : k < k + 1 := by omega
  have hi3 : (k : Int).toNat = k := by omega
  clear hy
  have hwl : IntKind.i64.wrap ((l.length : Int) - 1) = (k : Int) := by rw [hkz, Int.add_sub_cancel]; exact hwk
  have hl0 : (0 : Int) < (l.length : Int) := by omega
  have hl0n : 0 < l.length := by omega
  have hlk : (k : Int) < (l.length : Int) := by omega
  have hlk2 : k < l.length := by omega
  have h12l : decide ((12 : Int) ≤ (l.length : Int)) = false := decide_eq_false (by omega)
  clear hk hkz h12z hk0 hi1 hi2
  go_enter Tryz.func12, Tryz.ntmps12
  go_wp2_with fail
  generalize ((w.alloc (.cells #[.string key, .slice (some ⟨g, o, none⟩) l.length cap] 24)).alloc (.cells #[.int .i64 x.ver, .bool x.gone, .string x.body] 26)).alloc (.cells #[.string ⟨#[]⟩, .slice none 0 0] 24) = W at *
  obtain ⟨⟨c0, c1⟩, f0, f1⟩ := h1
  obtain ⟨⟨x0, x1, x2⟩, _⟩ := h2
  obtain ⟨⟨r0, r1⟩, g0, g1⟩ := h3
  go_quiet (fail)
  go_wp2_with fail
  have hgne := HGW.out
  have t0 : (((W.drewN nq).setCell ⟨w.heap.size + 1 + 1, 0, none⟩ (.string key)).setCell ⟨w.heap.size + 1 + 1, 1, none⟩ (.slice (some ⟨g, o, none⟩) l.length cap)).cell? ⟨w.heap.size + 1 + 1, 0, none⟩ = some (.string key) := by go_simp
  have t1 : (((W.drewN nq).setCell ⟨w.heap.size + 1 + 1, 0, none⟩ (.string key)).setCell ⟨w.heap.size + 1 + 1, 1, none⟩ (.slice (some ⟨g, o, none⟩) l.length cap)).cell? ⟨w.heap.size + 1 + 1, 1, none⟩ = some (.slice (some ⟨g, o, none⟩) l.length cap) := by go_simp
  have hV := HV.out.kept (w' := ((W.drewN nq).setCell ⟨w.heap.size + 1 + 1, 0, none⟩ (.string key)).setCell ⟨w.heap.size + 1 + 1, 1, none⟩ (.slice (some ⟨g, o, none⟩) l.length cap)) (by simp) (fun j hj => by
   have := hgne j hj
   rw [Below.heap_setCell _ _ _ _ (by simp; omega), Below.heap_setCell _ _ _ _ (by simp; omega)]
   rfl)
  have hB := ((below_drewN HB.out nq).setCell (p := ⟨w.heap.size + 1 + 1, 0, none⟩) (by simp; omega) (.string key)).setCell (p := ⟨w.heap.size + 1 + 1, 1, none⟩) (by simp; omega) (.slice (some ⟨g, o, none⟩) l.length cap)
  exact bodyPost_ret (v := .tuple #[.agg #[.string key, .slice (some ⟨g, o, none⟩) l.length cap], .bool false]) (by simp [results, Tryz.results12, go_sem, t0, t1]) rfl ⟨(some ⟨g, o, none⟩), cap, rfl, hV, hB⟩
end Go.Proofs.YtlajbminbdhpaaaGreatDoor
