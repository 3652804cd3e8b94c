/-
 Contracts of the program, and what they rest on.
-/
import Derived.Test.YtlpgphiccjkenaaGreatDoorM29
import Derived.Test.YtlpgphiccjkenaaGreatDoorM03
set_option maxRecDepth 100000
set_option maxHeartbeats 16000000
namespace Go.Proofs.YtlpgphiccjkenaaGreatDoor
open Go.RowKit
structure SB (w W : World) (E : Nat) (s : Bk) (u v : Value) : Prop where
 bc : BC W E s u v
 at' : BAt W s u v
 lib0 : LibAt w
 bl : Below w.heap.size w W
 lo : w.heap.size ≤ E
theorem SB.lib {w W : World} {E : Nat} {s : Bk} {u v : Value} (h : SB w W E s u v) : LibAt W := h.lib0.below h.bl
theorem SB.below {w W W' : World} {E : Nat} {s : Bk} {u v : Value} (h : SB w W E s u v) (hb : Below W.heap.size W W') : SB w W' E s u v :=
 ⟨h.bc.below hb, h.at'.below hb, h.lib0, h.bl.trans (hb.mono h.bl.size), h.lo⟩
theorem SB.new {w W : World} (hl : LibAt w) (hb : Below w.heap.size w W) : SB w (W.alloc (.cells #[.int .i64 0, .slice none 0 0, .slice none 0 0, .int .i64 0, .int .i64 0, .int .i64 0, .int .i64 0, .int .i64 0] 27)) W.heap.size Bk.zero (.slice none 0 0) (.slice none 0 0) := by
 have h1 : Below W.heap.size W (W.alloc (.cells #[.int .i64 0, .slice none 0 0, .slice none 0 0, .int .i64 0, .int .i64 0, .int .i64 0, .int .i64 0, .int .i64 0] 27)) := (Below.refl _ _).alloc (Nat.le_refl _) _
 exact ⟨BC.new W Bk.zero _ _, ⟨.inl ⟨rfl, rfl⟩, .inl ⟨rfl, rfl⟩, Nat.zero_le _, Nat.zero_le _, fun _ h => (by cases h)⟩, hl, hb.trans (h1.mono hb.size), hb.size⟩
theorem SB.store {w W W' : World} {E : Nat} {s s' : Bk} {u v u' v' : Value} (h : SB w W E s u v) (hb : Below W.heap.size W W') (he : EOwn W' W.heap.size u' s'.l) (hm : MOwn W' W.heap.size v' s'.ms) (h1 : s'.l.length ≤ 1000000) (h2 : s'.ms.length ≤ 1000000) (h3 : ∀ e ∈ s'.l, e.vs.length ≤ 1000000) : SB w (bstore W' E s' u' v') E s' u' v' := by
 have hE := h.bc.lt
 have k0 : ∀ i, i ≠ E → (bstore W' E s' u' v').heap[i]? = W'.heap[i]? := fun i hi => bstore_heap _ _ _ _ _ hi
 have hbl : Below w.heap.size w (bstore W' E s' u' v') := bstore_below s' u' v' h.lo (h.bl.trans (hb.mono h.bl.size))
 exact ⟨(h.bc.below hb).store, ⟨(he.kept (fun j hj _ => k0 j (by omega))).at, (hm.kept (fun j hj _ => k0 j (by omega))).at, h1, h2, h3⟩, h.lib0, hbl, h.lo⟩
theorem bstore_size (w : World) (b : Nat) (s : Bk) (u v : Value) : (bstore w b s u v).heap.size = w.heap.size := by
 unfold bstore
 simp
theorem rc_ne {w : World} {x b : Nat} {r : Rs} {s : Bk} {u v : Value} (h : RC w x r) (h' : BC w b s u v) : x ≠ b := fun e => by
 subst e
 unfold RC at h
 unfold BC at h'
 rw [h] at h'
 simp at h'
theorem bstore_rc {w : World} {x b : Nat} {r : Rs} (s : Bk) (u v : Value) (h : x ≠ b) : RC (bstore w b s u v) x r ↔ RC w x r := by
 unfold RC
 rw [bstore_heap _ _ _ _ _ h]
theorem lput_any (key body : ByteArray) (n : Int) (h0 : 0 ≤ n) (h1 : n ≤ 1000000) (w : World) : Calls Tryz.prog 15 #[.string key, .string body, .int .i64 n] w fun e w' => e = .returned (.agg #[.int .i64 1, .string key, .string body, .int .i64 0, .int .i64 0, .string ⟨#[]⟩, .int .i64 (4294967296 + n), .int .i64 0]) ∧ Below w.heap.size w w' := by
 have hw : IntKind.i64.wrap (4294967296 + n) = 4294967296 + n := IntWalk.i64_in _ (by omega)
 go_enter Tryz.func15, Tryz.ntmps15
 go_wp2_with fail
 exact bodyPost_ret (v := .agg #[.int .i64 1, .string key, .string body, .int .i64 0, .int .i64 0, .string ⟨#[]⟩, .int .i64 (4294967296 + n), .int .i64 0]) (by simp [results, Tryz.results15, go_sem]) rfl ⟨rfl, (Below.refl _ _).alloc (Nat.le_refl _) _⟩
theorem two_boxes (W : World) (a b : Array Value) (t t' : TypeId) : Below W.heap.size W ((W.alloc (.cells a t)).alloc (.cells b t')) := ((Below.refl _ _).alloc (Nat.le_refl _) _).alloc (by simp) _
theorem rc_two (W : World) (a : Array Value) (t : TypeId) (r : Rs) : RC ((W.alloc (.cells a t)).alloc (.cells #[.int .i64 r.err, .int .i64 r.ver] 30)) (W.heap.size + 1) r := by
 have := RC.new (W.alloc (.cells a t)) r
 simpa using this
end Go.Proofs.YtlpgphiccjkenaaGreatDoor
