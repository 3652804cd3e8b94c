import Derived.Test.YtamennoehnigaaaDoorLaw1
import Derived.Lib.QuietBelow
import Derived.Deep.RegionWith
namespace Go.Proofs.YtamennoehnigaaaDoor
open Go.RowKit Go.Proofs.Flo Go.Proofs.Cpl Go.Sort

/-- A callee that leaves the world alone, in a world of the class. -/
theorem regrown_same {P : Program} {f : FuncId} {args : Array Value} {w : World} {d : Nat} {os : Array Obj} {v : Value}
    (h : Calls P f args (grow (redrawn w d) os) fun e w' => e = .returned v ∧ (grow (redrawn w d) os) = w') : Calls P f args (grow (redrawn w d) os) fun e w'' => e = .returned v ∧ ∃ p : Regrown, w'' = grow (redrawn w p.d) p.os :=
  Calls.regrown_of (h.mono fun _ _ ⟨he, hw⟩ => ⟨he, by rw [← hw]; exact Below.refl _ _⟩)

/-- The pairs that a law keeps in memory. -/
def TwoG (W : World) (B : Nat) (p q : Int × Int) : Prop := At W B p ∧ At W (B + 1) q

theorem two_new (w : World) (p q : Int × Int) (t u : TypeId) : TwoG ((w.alloc (.cells #[.int .i64 p.1, .int .i64 p.2] t)).alloc (.cells #[.int .i64 q.1, .int .i64 q.2] u)) w.heap.size p q := by
  refine ⟨(At.new w p.1 p.2 t).alloc _, ?_⟩
  have h := At.new (w.alloc (.cells #[.int .i64 p.1, .int .i64 p.2] t)) q.1 q.2 u
  simpa using h

set_option maxRecDepth 100000 in
set_option maxHeartbeats 4000000 in
theorem gaussAll_in (a b c d : Int) (n : Int) (k : Nat) (w : World) (hbg : BegunTrue) (h : LibAt w) (hk : k ≤ 40) (hn : n = k ∧ ¬ 40 < n) :
    Calls Tryd.prog 3 #[.int .i64 a, .int .i64 b, .int .i64 c, .int .i64 d, .int .i64 n] w fun e w' => e = .returned (.bool true) ∧ Below w.heap.size w w' := by
  have HB := Lib.hid (hbg w h)
  clear hbg h
  obtain ⟨rfl, hn⟩ := hn
  go_enter Tryd.func3, Tryd.ntmps3
  go_wp2_with fail
  refine HB.out.mono ?_
  rintro _ w0 ⟨rfl, hb0⟩
  go_wp2_with fail
  refine (pair_p a b _).mono ?_
  rintro _ w1 ⟨rfl, hb1⟩
  have hp := ok_red (a, b)
  generalize red (a, b) = p at *
  go_wp2_with fail
  refine (pair_p c d _).mono ?_
  rintro _ w2 ⟨rfl, hb2⟩
  have hq := ok_red (c, d)
  generalize red (c, d) = q at *
  go_wp2_with fail
  have hB2 : Below w.heap.size w w2 := (hb0.trans (hb1.mono hb0.size)).trans (hb2.mono (Nat.le_trans hb0.size hb1.size))
  have hT := two_new w2 p q 24 24
  have hBW : Below w.heap.size w ((w2.alloc (.cells #[.int .i64 p.1, .int .i64 p.2] 24)).alloc (.cells #[.int .i64 q.1, .int .i64 q.2] 24)) :=
    (hB2.alloc hB2.size _).alloc (by have := hB2.size; simp only [World.size_alloc]; omega) _
  generalize (w2.alloc (.cells #[.int .i64 p.1, .int .i64 p.2] 24)).alloc (.cells #[.int .i64 q.1, .int .i64 q.2] 24) = W at *
  generalize w2.heap.size = B at *
  have HT := Lib.hid hT
  have HBW := Lib.hid hBW
  obtain ⟨⟨⟨c0, c1⟩, _, _⟩, ⟨⟨c2, c3⟩, _, _⟩⟩ := hT
  clear hb0 hb1 hb2 hB2 hBW
  have k0 := cell_regrown c0
  have k1 := cell_regrown c1
  have k2 := cell_regrown c2
  have k3 := cell_regrown c3
  have z1 := Lib.hid (fun d os => Calls.regrown_of (w := W) (d := d) (os := os) (z_p p hp _))
  have z2 := Lib.hid (fun d os => Calls.regrown_of (w := W) (d := d) (os := os) (z_p q hq _))
  refine wp_region_quiet_below (by kernel_rfl) (by kernel_rfl) ?_
  repeat (quiet_step (first | (go_at_call_of 21 (Value.int .i64 p.1); exact z1.out _ _) | (go_at_call_of 21 (Value.int .i64 q.1); exact z2.out _ _)))
  refine wpQuiet_nil ?_
  intro _ hw'
  obtain ⟨⟨dq, osq⟩, hw''⟩ := hw'
  subst hw''
  have hB3 := below_regrown W dq osq
  have hT3 : TwoG (grow (redrawn W dq) osq) B p q := ⟨HT.out.1.below hB3, HT.out.2.below hB3⟩
  have hBW3 : Below w.heap.size w (grow (redrawn W dq) osq) := HBW.out.trans (hB3.mono HBW.out.size)
  generalize grow (redrawn W dq) osq = W3 at *
  clear k0 k1 k2 k3 z1 z2 c0 c1 c2 c3 HT HBW hB3
  have HT := Lib.hid hT3
  have HBW := Lib.hid hBW3
  obtain ⟨⟨⟨c0, c1⟩, _, _⟩, ⟨⟨c2, c3⟩, _, _⟩⟩ := hT3
  clear hBW3
  have i1 : ¬ (40 : Int) < (k : Int) := by omega
  have i2 : (0 : Int) ≤ (k : Int) := by omega
  go_wp2_with fail
  refine (rpow_any p k hp (by omega) _).mono ?_
  rintro _ w4 ⟨rfl, hb4⟩
  unfold pq pz
  go_wp2_with fail
  refine (z_p (gpow p k) (ok_gpow p k) _).mono ?_
  rintro _ w5 ⟨rfl, hb5⟩
  have hB5 : Below W3.heap.size W3 w5 := hb4.trans (hb5.mono hb4.size)
  have hT5 : TwoG w5 B p q := ⟨HT.out.1.below hB5, HT.out.2.below hB5⟩
  have hBW5 : Below w.heap.size w w5 := HBW.out.trans (hB5.mono HBW.out.size)
  clear c0 c1 c2 c3 HT HBW hB5 hb4 hb5
  have HBW := Lib.hid hBW5
  obtain ⟨⟨⟨c0, c1⟩, _, _⟩, ⟨⟨c2, c3⟩, _, _⟩⟩ := hT5
  clear hBW5
  go_wp2_with fail
  have k0 := cell_regrown c0
  have k1 := cell_regrown c1
  have k2 := cell_regrown c2
  have k3 := cell_regrown c3
  have P := pow_gc p k hp (by omega)
  unfold gc at P
  have y1 := Lib.hid (fun d os => regrown_same (w := w5) (d := d) (os := os) (may_gc p hp _))
  have y2 := Lib.hid (fun d os => regrown_same (w := w5) (d := d) (os := os) (add_gc p q hp hq _))
  have y3 := Lib.hid (fun d os => Calls.regrown_of (w := w5) (d := d) (os := os) (radd_pq p q hp hq _))
  have y4 := Lib.hid (fun d os => Calls.regrown_of (w := w5) (d := d) (os := os) (z_p (gadd p q) (ok_gadd p q) _))
  have y5 := Lib.hid (fun d os => regrown_same (w := w5) (d := d) (os := os) (mul_gc p q hp hq _))
  have y6 := Lib.hid (fun d os => Calls.regrown_of (w := w5) (d := d) (os := os) (rmul_pq p q hp hq _))
  have y7 := Lib.hid (fun d os => Calls.regrown_of (w := w5) (d := d) (os := os) (z_p (gmul p q) (ok_gmul p q) _))
  have y8 := Lib.hid (fun d os => regrown_same (w := w5) (d := d) (os := os) (P _))
  have e1 := self_ok (ok_gadd p q)
  have e2 := self_ok (ok_gmul p q)
  have e3 := self_ok (ok_gpow p k)
  clear P
  refine wp_region_quiet_below (by kernel_rfl) (by kernel_rfl) ?_
  repeat (quiet_step (first
    | (go_at_call 23; exact y1.out _ _)
    | (go_at_call 24; exact y2.out _ _)
    | (go_at_call 25; exact y3.out _ _)
    | (go_at_call_of 21 (Value.int .i64 (gadd p q).1); exact y4.out _ _)
    | (go_at_call 26; exact y5.out _ _)
    | (go_at_call 27; exact y6.out _ _)
    | (go_at_call_of 21 (Value.int .i64 (gmul p q).1); exact y7.out _ _)
    | (go_at_call 28; exact y8.out _ _)))
  refine wpQuiet_nil ?_
  intro _ hw'
  obtain ⟨⟨dq2, osq2⟩, hw''⟩ := hw'
  subst hw''
  go_wp2_with fail
  go_ret
  exact ⟨rfl, HBW.out.trans ((below_regrown w5 dq2 osq2).mono HBW.out.size)⟩

set_option maxRecDepth 100000 in
set_option maxHeartbeats 4000000 in
theorem gaussAll_big (a b c d : Int) (n : Int) (k : Nat) (w : World) (hbg : BegunTrue) (h : LibAt w) (hk : k ≤ 40) (hn : 40 < n ∧ n % 40 = k) :
    Calls Tryd.prog 3 #[.int .i64 a, .int .i64 b, .int .i64 c, .int .i64 d, .int .i64 n] w fun e w' => e = .returned (.bool true) ∧ Below w.heap.size w w' := by
  have HB := Lib.hid (hbg w h)
  clear hbg h
  obtain ⟨hn, hmod⟩ := hn
  go_enter Tryd.func3, Tryd.ntmps3
  go_wp2_with fail
  refine HB.out.mono ?_
  rintro _ w0 ⟨rfl, hb0⟩
  go_wp2_with fail
  refine (pair_p a b _).mono ?_
  rintro _ w1 ⟨rfl, hb1⟩
  have hp := ok_red (a, b)
  generalize red (a, b) = p at *
  go_wp2_with fail
  refine (pair_p c d _).mono ?_
  rintro _ w2 ⟨rfl, hb2⟩
  have hq := ok_red (c, d)
  generalize red (c, d) = q at *
  go_wp2_with fail
  have hB2 : Below w.heap.size w w2 := (hb0.trans (hb1.mono hb0.size)).trans (hb2.mono (Nat.le_trans hb0.size hb1.size))
  have hT := two_new w2 p q 24 24
  have hBW : Below w.heap.size w ((w2.alloc (.cells #[.int .i64 p.1, .int .i64 p.2] 24)).alloc (.cells #[.int .i64 q.1, .int .i64 q.2] 24)) :=
    (hB2.alloc hB2.size _).alloc (by have := hB2.size; simp only [World.size_alloc]; omega) _
  generalize (w2.alloc (.cells #[.int .i64 p.1, .int .i64 p.2] 24)).alloc (.cells #[.int .i64 q.1, .int .i64 q.2] 24) = W at *
  generalize w2.heap.size = B at *
  have HT := Lib.hid hT
  have HBW := Lib.hid hBW
  obtain ⟨⟨⟨c0, c1⟩, _, _⟩, ⟨⟨c2, c3⟩, _, _⟩⟩ := hT
  clear hb0 hb1 hb2 hB2 hBW
  have k0 := cell_regrown c0
  have k1 := cell_regrown c1
  have k2 := cell_regrown c2
  have k3 := cell_regrown c3
  have z1 := Lib.hid (fun d os => Calls.regrown_of (w := W) (d := d) (os := os) (z_p p hp _))
  have z2 := Lib.hid (fun d os => Calls.regrown_of (w := W) (d := d) (os := os) (z_p q hq _))
  refine wp_region_quiet_below (by kernel_rfl) (by kernel_rfl) ?_
  repeat (quiet_step (first | (go_at_call_of 21 (Value.int .i64 p.1); exact z1.out _ _) | (go_at_call_of 21 (Value.int .i64 q.1); exact z2.out _ _)))
  refine wpQuiet_nil ?_
  intro _ hw'
  obtain ⟨⟨dq, osq⟩, hw''⟩ := hw'
  subst hw''
  have hB3 := below_regrown W dq osq
  have hT3 : TwoG (grow (redrawn W dq) osq) B p q := ⟨HT.out.1.below hB3, HT.out.2.below hB3⟩
  have hBW3 : Below w.heap.size w (grow (redrawn W dq) osq) := HBW.out.trans (hB3.mono HBW.out.size)
  generalize grow (redrawn W dq) osq = W3 at *
  clear k0 k1 k2 k3 z1 z2 c0 c1 c2 c3 HT HBW hB3
  have HT := Lib.hid hT3
  have HBW := Lib.hid hBW3
  obtain ⟨⟨⟨c0, c1⟩, _, _⟩, ⟨⟨c2, c3⟩, _, _⟩⟩ := hT3
  clear hBW3
  have i2 : (0 : Int) ≤ (k : Int) := by omega
  go_wp2_with fail
  refine (rpow_any p k hp (by omega) _).mono ?_
  rintro _ w4 ⟨rfl, hb4⟩
  unfold pq pz
  go_wp2_with fail
  refine (z_p (gpow p k) (ok_gpow p k) _).mono ?_
  rintro _ w5 ⟨rfl, hb5⟩
  have hB5 : Below W3.heap.size W3 w5 := hb4.trans (hb5.mono hb4.size)
  have hT5 : TwoG w5 B p q := ⟨HT.out.1.below hB5, HT.out.2.below hB5⟩
  have hBW5 : Below w.heap.size w w5 := HBW.out.trans (hB5.mono HBW.out.size)
  clear c0 c1 c2 c3 HT HBW hB5 hb4 hb5
  have HBW := Lib.hid hBW5
  obtain ⟨⟨⟨c0, c1⟩, _, _⟩, ⟨⟨c2, c3⟩, _, _⟩⟩ := hT5
  clear hBW5
  go_wp2_with fail
  have k0 := cell_regrown c0
  have k1 := cell_regrown c1
  have k2 := cell_regrown c2
  have k3 := cell_regrown c3
  have P := pow_gc p k hp (by omega)
  unfold gc at P
  have y1 := Lib.hid (fun d os => regrown_same (w := w5) (d := d) (os := os) (may_gc p hp _))
  have y2 := Lib.hid (fun d os => regrown_same (w := w5) (d := d) (os := os) (add_gc p q hp hq _))
  have y3 := Lib.hid (fun d os => Calls.regrown_of (w := w5) (d := d) (os := os) (radd_pq p q hp hq _))
  have y4 := Lib.hid (fun d os => Calls.regrown_of (w := w5) (d := d) (os := os) (z_p (gadd p q) (ok_gadd p q) _))
  have y5 := Lib.hid (fun d os => regrown_same (w := w5) (d := d) (os := os) (mul_gc p q hp hq _))
  have y6 := Lib.hid (fun d os => Calls.regrown_of (w := w5) (d := d) (os := os) (rmul_pq p q hp hq _))
  have y7 := Lib.hid (fun d os => Calls.regrown_of (w := w5) (d := d) (os := os) (z_p (gmul p q) (ok_gmul p q) _))
  have y8 := Lib.hid (fun d os => regrown_same (w := w5) (d := d) (os := os) (P _))
  have e1 := self_ok (ok_gadd p q)
  have e2 := self_ok (ok_gmul p q)
  have e3 := self_ok (ok_gpow p k)
  clear P
  refine wp_region_quiet_below (by kernel_rfl) (by kernel_rfl) ?_
  repeat (quiet_step (first
    | (go_at_call 23; exact y1.out _ _)
    | (go_at_call 24; exact y2.out _ _)
    | (go_at_call 25; exact y3.out _ _)
    | (go_at_call_of 21 (Value.int .i64 (gadd p q).1); exact y4.out _ _)
    | (go_at_call 26; exact y5.out _ _)
    | (go_at_call 27; exact y6.out _ _)
    | (go_at_call_of 21 (Value.int .i64 (gmul p q).1); exact y7.out _ _)
    | (go_at_call 28; exact y8.out _ _)))
  refine wpQuiet_nil ?_
  intro _ hw'
  obtain ⟨⟨dq2, osq2⟩, hw''⟩ := hw'
  subst hw''
  go_wp2_with fail
  go_ret
  exact ⟨rfl, HBW.out.trans ((below_regrown w5 dq2 osq2).mono HBW.out.size)⟩

set_option maxRecDepth 100000 in
set_option maxHeartbeats 4000000 in
theorem gaussAll_neg (a b c d : Int) (n : Int) (w : World) (hbg : BegunTrue) (h : LibAt w) (hn : n < 0) :
    Calls Tryd.prog 3 #[.int .i64 a, .int .i64 b, .int .i64 c, .int .i64 d, .int .i64 n] w fun e w' => e = .returned (.bool true) ∧ Below w.heap.size w w' := by
  have HB := Lib.hid (hbg w h)
  clear hbg h
  go_enter Tryd.func3, Tryd.ntmps3
  go_wp2_with fail
  refine HB.out.mono ?_
  rintro _ w0 ⟨rfl, hb0⟩
  go_wp2_with fail
  refine (pair_p a b _).mono ?_
  rintro _ w1 ⟨rfl, hb1⟩
  have hp := ok_red (a, b)
  generalize red (a, b) = p at *
  go_wp2_with fail
  refine (pair_p c d _).mono ?_
  rintro _ w2 ⟨rfl, hb2⟩
  have hq := ok_red (c, d)
  generalize red (c, d) = q at *
  go_wp2_with fail
  have hB2 : Below w.heap.size w w2 := (hb0.trans (hb1.mono hb0.size)).trans (hb2.mono (Nat.le_trans hb0.size hb1.size))
  have hT := two_new w2 p q 24 24
  have hBW : Below w.heap.size w ((w2.alloc (.cells #[.int .i64 p.1, .int .i64 p.2] 24)).alloc (.cells #[.int .i64 q.1, .int .i64 q.2] 24)) :=
    (hB2.alloc hB2.size _).alloc (by have := hB2.size; simp only [World.size_alloc]; omega) _
  generalize (w2.alloc (.cells #[.int .i64 p.1, .int .i64 p.2] 24)).alloc (.cells #[.int .i64 q.1, .int .i64 q.2] 24) = W at *
  generalize w2.heap.size = B at *
  have HT := Lib.hid hT
  have HBW := Lib.hid hBW
  obtain ⟨⟨⟨c0, c1⟩, _, _⟩, ⟨⟨c2, c3⟩, _, _⟩⟩ := hT
  clear hb0 hb1 hb2 hB2 hBW
  have k0 := cell_regrown c0
  have k1 := cell_regrown c1
  have k2 := cell_regrown c2
  have k3 := cell_regrown c3
  have z1 := Lib.hid (fun d os => Calls.regrown_of (w := W) (d := d) (os := os) (z_p p hp _))
  have z2 := Lib.hid (fun d os => Calls.regrown_of (w := W) (d := d) (os := os) (z_p q hq _))
  refine wp_region_quiet_below (by kernel_rfl) (by kernel_rfl) ?_
  repeat (quiet_step (first | (go_at_call_of 21 (Value.int .i64 p.1); exact z1.out _ _) | (go_at_call_of 21 (Value.int .i64 q.1); exact z2.out _ _)))
  refine wpQuiet_nil ?_
  intro _ hw'
  obtain ⟨⟨dq, osq⟩, hw''⟩ := hw'
  subst hw''
  have hB3 := below_regrown W dq osq
  have hT3 : TwoG (grow (redrawn W dq) osq) B p q := ⟨HT.out.1.below hB3, HT.out.2.below hB3⟩
  have hBW3 : Below w.heap.size w (grow (redrawn W dq) osq) := HBW.out.trans (hB3.mono HBW.out.size)
  generalize grow (redrawn W dq) osq = W3 at *
  clear k0 k1 k2 k3 z1 z2 c0 c1 c2 c3 HT HBW hB3
  have HT := Lib.hid hT3
  have HBW := Lib.hid hBW3
  obtain ⟨⟨⟨c0, c1⟩, _, _⟩, ⟨⟨c2, c3⟩, _, _⟩⟩ := hT3
  clear hBW3
  have i1 : ¬ (40 : Int) < n := by omega
  have i2 : ¬ (0 : Int) ≤ n := by omega
  clear HT
  go_wp2_with fail
  have k0 := cell_regrown c0
  have k1 := cell_regrown c1
  have k2 := cell_regrown c2
  have k3 := cell_regrown c3
  have P := pow_neg (fk 0 p.1) (fk 0 p.2) n hn
  have y1 := Lib.hid (fun d os => regrown_same (w := W3) (d := d) (os := os) (may_gc p hp _))
  have y2 := Lib.hid (fun d os => regrown_same (w := W3) (d := d) (os := os) (add_gc p q hp hq _))
  have y3 := Lib.hid (fun d os => Calls.regrown_of (w := W3) (d := d) (os := os) (radd_pq p q hp hq _))
  have y4 := Lib.hid (fun d os => Calls.regrown_of (w := W3) (d := d) (os := os) (z_p (gadd p q) (ok_gadd p q) _))
  have y5 := Lib.hid (fun d os => regrown_same (w := W3) (d := d) (os := os) (mul_gc p q hp hq _))
  have y6 := Lib.hid (fun d os => Calls.regrown_of (w := W3) (d := d) (os := os) (rmul_pq p q hp hq _))
  have y7 := Lib.hid (fun d os => Calls.regrown_of (w := W3) (d := d) (os := os) (z_p (gmul p q) (ok_gmul p q) _))
  have y8 := Lib.hid (fun d os => regrown_same (w := W3) (d := d) (os := os) (P _))
  have e1 := self_ok (ok_gadd p q)
  have e2 := self_ok (ok_gmul p q)
  have e3 : (FloatKind.f64.format.order 0 0 == some .eq) = true := by decide
  clear P
  refine wp_region_quiet_below (by kernel_rfl) (by kernel_rfl) ?_
  repeat (quiet_step (first
    | (go_at_call 23; exact y1.out _ _)
    | (go_at_call 24; exact y2.out _ _)
    | (go_at_call 25; exact y3.out _ _)
    | (go_at_call_of 21 (Value.int .i64 (gadd p q).1); exact y4.out _ _)
    | (go_at_call 26; exact y5.out _ _)
    | (go_at_call 27; exact y6.out _ _)
    | (go_at_call_of 21 (Value.int .i64 (gmul p q).1); exact y7.out _ _)
    | (go_at_call 28; exact y8.out _ _)))
  refine wpQuiet_nil ?_
  intro _ hw'
  obtain ⟨⟨dq2, osq2⟩, hw''⟩ := hw'
  subst hw''
  go_wp2_with fail
  go_ret
  exact ⟨rfl, HBW.out.trans ((below_regrown W3 dq2 osq2).mono HBW.out.size)⟩

theorem gaussAll_walk (a b c d n : Int) (w : World) (hbg : BegunTrue) (h : LibAt w) :
    Calls Tryd.prog 3 #[.int .i64 a, .int .i64 b, .int .i64 c, .int .i64 d, .int .i64 n] w fun e w' => e = .returned (.bool true) ∧ Below w.heap.size w w' := by
  by_cases h1 : n < 0
  · exact gaussAll_neg a b c d n w hbg h h1
  · by_cases h2 : 40 < n
    · exact gaussAll_big a b c d n (n % 40).toNat w hbg h (by omega) ⟨h2, by omega⟩
    · exact gaussAll_in a b c d n n.toNat w hbg h (by omega) ⟨by omega, h2⟩

end Go.Proofs.YtamennoehnigaaaDoor
