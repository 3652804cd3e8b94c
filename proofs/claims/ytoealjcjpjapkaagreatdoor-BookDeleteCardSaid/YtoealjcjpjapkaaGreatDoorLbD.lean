/-
  A book and a result stored; two operations of a region that wait for nothing.
-/
import Derived.Test.YtoealjcjpjapkaaGreatDoorLbC
import Derived.Test.YtoealjcjpjapkaaGreatDoorM04
import Derived.Test.YtoealjcjpjapkaaGreatDoorM18
import Derived.Test.YtoealjcjpjapkaaGreatDoorM19
namespace Go.Proofs.YtoealjcjpjapkaaGreatDoor
open Go.RowKit

section
variable {P : Program} {ops : Array Oper} {Q : Exit → Act → World → Prop} {S : Array Bool → World → Prop}

theorem wpAnyD_two {i j : Nat} {oi oj : Oper} {fuel : Nat} {listed : Array Bool} {a : Act} {w : World} (hr : Region.ready .any ops listed = [i, j]) (hoi : ops[i]? = some oi) (hoj : ops[j]? = some oj) (hg : noGuards ops = true)
    (hi : ∀ K : Act → World → Prop, Shut (∀ a w, S (listed.setIfInBounds i true) w → (S (listed.setIfInBounds i true) w → wpAnyD P ops Q S fuel (listed.setIfInBounds i true) a w) → K a w) → Oper.wp P oi a w K Q)
    (hj : ∀ K : Act → World → Prop, Shut (∀ a w, S (listed.setIfInBounds j true) w → (S (listed.setIfInBounds j true) w → wpAnyD P ops Q S fuel (listed.setIfInBounds j true) a w) → K a w) → Oper.wp P oj a w K Q) : wpAnyD P ops Q S (fuel + 1) listed a w := by
  refine ⟨fun h0 => (by rw [hr] at h0; cases h0), fun k hk => ?_⟩
  rw [hr] at hk
  rcases List.mem_cons.1 hk with rfl | hk
  · unfold wpOp
    simp only [hoi, wanted_free (noGuards_spec hg _ oi hoi), if_true]
    exact .inl (hi _ (fun a w h1 h2 => ⟨h1, h2 h1⟩))
  · obtain rfl := List.mem_singleton.1 hk
    unfold wpOp
    simp only [hoj, wanted_free (noGuards_spec hg _ oj hoj), if_true]
    exact .inl (hj _ (fun a w h1 h2 => ⟨h1, h2 h1⟩))

end

theorem SB.store2 {w W W' : World} {E : Nat} {s s' : Bk} {u v u' v' : Value} (h : SB w W E s u v) (hb : Below W.heap.size W W') (he : EOwn W' W.heap.size u' s'.l) (hm : MOwn W' W.heap.size v' s'.ms) (h1 : s'.l.length ≤ 1000000) (h2 : s'.ms.length ≤ 1000000) (h3 : ∀ e ∈ s'.l, e.vs.length ≤ 1000000) :
    SB w (bstore W' E s' u' v') E s' u' v' ∧ EOwn (bstore W' E s' u' v') W.heap.size u' s'.l ∧ MOwn (bstore W' E s' u' v') W.heap.size v' s'.ms := by
  have hE := h.bc.lt
  have k0 : ∀ i, i ≠ E → (bstore W' E s' u' v').heap[i]? = W'.heap[i]? := fun i hi => bstore_heap _ _ _ _ _ hi
  exact ⟨h.store hb he hm h1 h2 h3, he.kept (fun j hj _ => k0 j (by omega)), hm.kept (fun j hj _ => k0 j (by omega))⟩

theorem SB.res {w W : World} {E X B B' : Nat} {s : Bk} {u v : Value} {r : Rs} (r' : Rs) (h : SB w W E s u v) (he : EOwn W B u s.l) (hm : MOwn W B' v s.ms) (hx : RC W X r) (hX : w.heap.size ≤ X) :
    SB w ((W.setCell ⟨X, 0, none⟩ (.int .i64 r'.err)).setCell ⟨X, 1, none⟩ (.int .i64 r'.ver)) E s u v ∧ RC ((W.setCell ⟨X, 0, none⟩ (.int .i64 r'.err)).setCell ⟨X, 1, none⟩ (.int .i64 r'.ver)) X r' := by
  have hne : X ≠ E := rc_ne hx h.bc
  have k0 : ∀ i, i ≠ X → ((W.setCell ⟨X, 0, none⟩ (.int .i64 r'.err)).setCell ⟨X, 1, none⟩ (.int .i64 r'.ver)).heap[i]? = W.heap[i]? := fun i hi => by
    rw [Below.heap_setCell _ _ _ _ (by simpa using hi), Below.heap_setCell _ _ _ _ (by simpa using hi)]
  have n2 : ∀ {T : TypeId} {z : Value} {B k n : Nat} {cs : List Value}, W.ownsRow B T k z n cs → 80 ≠ T → ((W.setCell ⟨X, 0, none⟩ (.int .i64 r'.err)).setCell ⟨X, 1, none⟩ (.int .i64 r'.ver)).ownsRow B T k z n cs := fun hr h2 => row_kept hr (fun g hg => k0 g (fun e => row_off hr hx h2 (by rw [hg, e])))
  refine ⟨⟨(k0 E (Ne.symm hne)).trans h.bc, ⟨?_, MOwn.at (B := B') (n2 hm (by decide)), h.at'.short, h.at'.shortM, h.at'.shortV⟩, h.lib0, (h.bl.setCell (p := ⟨X, 0, none⟩) hX _).setCell (p := ⟨X, 1, none⟩) hX _, h.lo⟩, hx.set r'⟩
  obtain ⟨ps, hr, hf⟩ := he
  exact EOwn.at (B := B) ⟨ps, n2 hr (by decide), hf.map (fun _ _ hz => n2 hz (by decide))⟩

theorem eown_res {W : World} {B X : Nat} {u : Value} {l : List En} {r : Rs} (r' : Rs) (he : EOwn W B u l) (hx : RC W X r) : EOwn ((W.setCell ⟨X, 0, none⟩ (.int .i64 r'.err)).setCell ⟨X, 1, none⟩ (.int .i64 r'.ver)) B u l := by
  have k0 : ∀ i, i ≠ X → ((W.setCell ⟨X, 0, none⟩ (.int .i64 r'.err)).setCell ⟨X, 1, none⟩ (.int .i64 r'.ver)).heap[i]? = W.heap[i]? := fun i hi => by
    rw [Below.heap_setCell _ _ _ _ (by simpa using hi), Below.heap_setCell _ _ _ _ (by simpa using hi)]
  have n2 : ∀ {T : TypeId} {z : Value} {B k n : Nat} {cs : List Value}, W.ownsRow B T k z n cs → 80 ≠ T → ((W.setCell ⟨X, 0, none⟩ (.int .i64 r'.err)).setCell ⟨X, 1, none⟩ (.int .i64 r'.ver)).ownsRow B T k z n cs := fun hr h2 => row_kept hr (fun g hg => k0 g (fun e => row_off hr hx h2 (by rw [hg, e])))
  obtain ⟨ps, hr, hf⟩ := he
  exact ⟨ps, n2 hr (by decide), hf.map (fun _ _ hz => n2 hz (by decide))⟩

theorem rc_res {W : World} {X Y : Nat} {r0 : Rs} (r' : Rs) (h : RC W Y r0) (hne : Y ≠ X) : RC ((W.setCell ⟨X, 0, none⟩ (.int .i64 r'.err)).setCell ⟨X, 1, none⟩ (.int .i64 r'.ver)) Y r0 := by
  unfold RC
  rw [Below.heap_setCell _ _ _ _ (by simpa using hne), Below.heap_setCell _ _ _ _ (by simpa using hne)]
  exact h

end Go.Proofs.YtoealjcjpjapkaaGreatDoor
