/-
  Contracts of the program, and what they rest on.
-/
import Derived.Test.YtaacdggjkfmehaaGreatDoorM16
namespace Go.Proofs.YtaacdggjkfmehaaGreatDoor
open Go.RowKit Go.Maps Go.Proofs.MapD Go.Proofs.Chest
def Reads (w : World) (v : Value) (l : List ByteArray) : Prop :=
  ∃ ad cap, v = .slice ad l.length cap ∧ (0 < l.length → ∃ g o, ad = some ⟨g, o, none⟩ ∧ l.length ≤ cap ∧ ∀ j s, l[j]? = some s → w.cell? ⟨g, o + j, none⟩ = some (.string s))
theorem Reads.below {w w' : World} {v : Value} {l : List ByteArray} (h : Reads w v l) (hb : Below w.heap.size w w') : Reads w' v l := by
  obtain ⟨ad, cap, hv, h1⟩ := h
  refine ⟨ad, cap, hv, fun hl => ?_⟩
  obtain ⟨g, o, h2, h3, h4⟩ := h1 hl
  refine ⟨g, o, h2, h3, fun j s hj => ?_⟩
  have := h4 j s hj
  rw [hb.cell (World.block_lt_of_cell? w _ this)]
  exact this
section
variable {w : World} {c j : Nat} {H : List Nat} {st : St} {r : Jr}
set_option maxRecDepth 100000 in
set_option maxHeartbeats 4000000 in
theorem jfirst_p (h : JC w c j st r H) : Calls Tryz.prog 51 #[.pointer (some ⟨j, 0, none⟩)] w fun x w' => x = .returned (.string r.first) ∧ w = w' := by
  obtain ⟨F, G, rfl, _, _, v, ⟨⟨_, h1, _⟩, _⟩, _⟩ := h
  go_enter Tryz.func51, Tryz.ntmps51
  go_wp2_with fail
  go_ret
  exact ⟨rfl, rfl⟩
set_option maxRecDepth 100000 in
set_option maxHeartbeats 4000000 in
theorem jlong_p (h : JC w c j st r H) : Calls Tryz.prog 57 #[.pointer (some ⟨j, 0, none⟩)] w fun x w' => x = .returned (.int .i64 r.long) ∧ w = w' := by
  obtain ⟨F, G, rfl, _, _, v, ⟨⟨_, _, _, h1, _⟩, _⟩, _⟩ := h
  go_enter Tryz.func57, Tryz.ntmps57
  go_wp2_with fail
  go_ret
  exact ⟨rfl, rfl⟩
def refS (r : Jr) (s : ByteArray) : Int := if r.down = true then 7 else if 400000 < s.size then 1 else 0
set_option maxRecDepth 100000 in
set_option maxHeartbeats 4000000 in
theorem jrefuses_p (h : JC w c j st r H) (s : ByteArray) : Calls Tryz.prog 84 #[.pointer (some ⟨j, 0, none⟩), .string s] w fun x w' => x = .returned (.int .i64 (refS r s)) ∧ w = w' := by
  obtain ⟨F, G, rfl, _, _, v, ⟨⟨_, _, _, _, h1⟩, _⟩, _⟩ := h
  unfold refS
  cases hd : r.down with
  | true =>
    rw [hd] at h1
    rw [if_pos rfl]
    go_enter Tryz.func84, Tryz.ntmps84
    go_wp2_with fail
    go_ret
    exact ⟨rfl, rfl⟩
  | false =>
    rw [hd] at h1
    rw [if_neg (by decide)]
    by_cases hs : 400000 < s.size
    · rw [if_pos hs]
      have hs' : (400000 : Int) < (s.size : Int) := by omega
      go_enter Tryz.func84, Tryz.ntmps84
      go_wp2_with fail
      go_ret
      exact ⟨rfl, rfl⟩
    · rw [if_neg hs]
      have hs' : ¬ (400000 : Int) < (s.size : Int) := by omega
      go_enter Tryz.func84, Tryz.ntmps84
      go_wp2_with fail
      go_ret
      exact ⟨rfl, rfl⟩
set_option maxRecDepth 100000 in
set_option maxHeartbeats 4000000 in
theorem jfail_p (h : JC w c j st r H) (e : Int) : Calls Tryz.prog 86 #[.pointer (some ⟨j, 0, none⟩), .int .i64 e] w fun x w' => x = .returned (.int .i64 e) ∧ JTurns w c j H st ⟨r.first, r.recs, r.long, true⟩ w' := by
  obtain ⟨F, G, rfl, hd, hR, v, hc, hrec, hne, rfl⟩ := h
  have HH := Lib.hid (And.intro hd (And.intro hR (And.intro hrec hne)))
  have hjw : j < w.heap.size := hc.lt
  obtain ⟨⟨c0, c1, c2, c3, c4⟩, z0, z1, z2, z3, z4⟩ := hc
  clear hd hR hrec hne
  go_enter Tryz.func86, Tryz.ntmps86
  go_wp2_with fail
  go_ret
  refine ⟨rfl, ?_⟩
  obtain ⟨hd, hR, hrec, hne⟩ := HH.out
  have ho : Only (F ++ (j :: (rowOf v).toList)) w (w.setCell ⟨j, 4, none⟩ (.bool true)) := (Only.refl _ _).setCell (.inl (by simp)) _
  refine ⟨_, ⟨F, j :: (rowOf v).toList, rfl, hd, hR.kept (fun k hk => Below.heap_setCell _ _ _ _ (fun e => hd k hk (by simp [e]))), v, ⟨⟨?_, ?_, ?_, ?_, ?_⟩, ?_, ?_, ?_, ?_, ?_⟩, hrec.kept (fun g hg => Below.heap_setCell _ _ _ _ (fun e => hne (by rw [hg, e]))), hne, rfl⟩, fun k hk => .inl hk, ho⟩ <;> go_simp
end
end Go.Proofs.YtaacdggjkfmehaaGreatDoor
namespace Go.Proofs.YtaacdggjkfmehaaGreatDoor
open Go.RowKit Go.Maps Go.Proofs.MapD Go.Proofs.Chest
theorem jc_chest {w w1 : World} {c j : Nat} {F G : List Nat} {st1 : St} {r : Jr} (hd : ∀ k ∈ F, k ∉ G) (hJ : JRep w c j G r) (ht : Turns w c F st1 w1) : JTurns w c j (F ++ G) st1 r w1 := by
  obtain ⟨F1, r1, k1, o1⟩ := ht
  have hG := hJ.lt
  refine ⟨F1 ++ G, ⟨F1, G, rfl, fun k hk hm => ?_, r1, hJ.kept (fun k hk => o1.block k (hG k hk) (fun hm => hd k hm hk))⟩, fun k hk => ?_, o1.mono (fun i hi => by simp [hi])⟩
  · rcases k1 k hk with h | h
    · exact hd k h hm
    · have := hG k hm; omega
  · rcases List.mem_append.1 hk with hk | hk
    · rcases k1 k hk with h | h
      · exact .inl (by simp [h])
      · exact .inr h
    · exact .inl (by simp [hk])
theorem JTurns.next {w w1 w2 : World} {c j : Nat} {H H1 : List Nat} {st : St} {r : Jr} (h1 : ∀ k ∈ H1, k ∈ H ∨ w.heap.size ≤ k) (h2 : Only H w w1) (h3 : JTurns w1 c j H1 st r w2) : JTurns w c j H st r w2 := by
  obtain ⟨H2, h4, h5, h6⟩ := h3
  have := h2.size
  refine ⟨H2, h4, fun k hk => ?_, h2.trans h6 h1⟩
  rcases h5 k hk with h | h
  · exact h1 k h
  · exact .inr (by omega)
theorem JTurns.same {w : World} {c j : Nat} {H : List Nat} {st : St} {r : Jr} (h : JC w c j st r H) : JTurns w c j H st r w := ⟨H, h, fun _ hk => .inl hk, Only.refl _ _⟩
theorem JTurns.below {w w1 w2 : World} {c j : Nat} {H : List Nat} {st : St} {r : Jr} (h : Below w.heap.size w w1) (h3 : JTurns w1 c j H st r w2) : JTurns w c j H st r w2 :=
  JTurns.next (fun _ hk => .inl hk) (Only.of_below h H) h3
theorem jc_append {w w4 : World} {c j : Nat} {F : List Nat} {st : St} {r : Jr} {v v' : Value} {s : ByteArray} (hd : ∀ k ∈ F, k ∉ j :: (rowOf v).toList) (hR : Rep w c F st) (hc : JCells w j c v r) (hne : rowOf v ≠ some j)
    (hO : Only (rowOf v).toList w w4) (hrec : Recs w4 v' (r.recs ++ [s])) (hat : ∀ g, rowOf v' = some g → rowOf v = some g ∨ w.heap.size ≤ g) (n : Nat) :
    JTurns w c j (F ++ (j :: (rowOf v).toList)) st ⟨r.first, r.recs ++ [s], n, r.down⟩ ((w4.setCell ⟨j, 2, none⟩ v').setCell ⟨j, 3, none⟩ (.int .i64 n)) := by
  have hjw : j < w.heap.size := hc.lt
  have hs := hO.size
  have e1 : w4.heap[j]? = w.heap[j]? := hO.block j hjw (fun hm => hne (by simpa using hm))
  have hc4 := hc.kept e1
  have hne' : rowOf v' ≠ some j := fun e => by
    rcases hat j e with h | h
    · exact hne h
    · omega
  obtain ⟨⟨c0, c1, c2, c3, c4⟩, z0, z1, z2, z3, z4⟩ := hc4
  have hkF : ∀ k ∈ F, ((w4.setCell ⟨j, 2, none⟩ v').setCell ⟨j, 3, none⟩ (.int .i64 n)).heap[k]? = w.heap[k]? := fun k hk => by
    have h1 := hd k hk
    simp only [List.mem_cons, not_or] at h1
    rw [Below.heap_setCell _ _ _ _ (fun e => h1.1 (by simp [e])), Below.heap_setCell _ _ _ _ (fun e => h1.1 (by simp [e]))]
    exact hO.block k (hR.lt k hk) h1.2
  refine ⟨F ++ (j :: (rowOf v').toList), ⟨F, j :: (rowOf v').toList, rfl, fun k hk hm => ?_, hR.kept hkF, v', ⟨⟨?_, ?_, ?_, ?_, ?_⟩, ?_, ?_, ?_, ?_, ?_⟩, hrec.kept (fun g hg => ?_), hne', rfl⟩, fun k hk => ?_, ?_⟩
  · rcases List.mem_cons.1 hm with rfl | hm
    · exact hd k hk (by simp)
    · rcases hat k (by simpa using hm) with h | h
      · exact hd k hk (by simp [h])
      · have := hR.lt k hk; omega
  · go_simp
  · go_simp
  · go_simp
  · go_simp
  · go_simp
  · go_simp
  · go_simp
  · go_simp
  · go_simp
  · go_simp
  · rw [Below.heap_setCell _ _ _ _ (fun e => hne' (by rw [hg, e])), Below.heap_setCell _ _ _ _ (fun e => hne' (by rw [hg, e]))]
  · rcases List.mem_append.1 hk with hk | hk
    · exact .inl (by simp [hk])
    · rcases List.mem_cons.1 hk with rfl | hk
      · exact .inl (by simp)
      · rcases hat k (by simpa using hk) with h | h
        · exact .inl (by simp [h])
        · exact .inr h
  · exact ((hO.mono (fun i hi => by simp at hi; simp [hi])).setCell (.inl (by simp)) _).setCell (.inl (by simp)) _
end Go.Proofs.YtaacdggjkfmehaaGreatDoor
namespace Go.Proofs.YtaacdggjkfmehaaGreatDoor
open Go.RowKit Go.Maps Go.Proofs.MapD Go.Proofs.Chest
theorem op_append_recs {K : Act → World → Prop} {Q : Exit → Act → World → Prop} {o : Oper} {a : Act} {w : World} (_hgd : o.guard = none) (sl x : Operand)
    (ho : o.op = .call { callee := .builtin .append, args := #[sl, x], argTypes := #[93, 93] }) (v : Value) (l : List ByteArray) (hs : a.eval sl = v) (h : Recs w v l) (hl : l.length ≤ 2000000)
    (ad : Addr) (c : Nat) (s : ByteArray) (hx : a.eval x = .slice (some ad) 1 c) (hc : w.cell? ad = some (.string s))
    (k : ∀ v' w', Recs w' v' (l ++ [s]) → w.grownBy w' (rowOf v) → (rowOf v' = rowOf v ∨ rowOf v' = some w.heap.size) → K (a.put o.dst v') w') : o.wp Tryz.prog a w K Q := by
  obtain ⟨v', w', hr, h2, h3, h4⟩ := append_recs h hl ad c s hc o.type
  exact Lib.wp_append_run_sl w sl x 93 ho v _ hs hx hr (k v' w' h2 h3 h4)
section
variable {w : World} {c j : Nat} {H : List Nat} {st : St} {r : Jr}
theorem owns_reads {w : World} {B : Nat} {v : Value} {l : List ByteArray} (h : w.ownsRow B 9 1 v l.length (l.map Value.string)) : Reads w v l := by
  have hc := fun g hg => h.cells (g := g) hg
  rcases h.2 with ⟨rfl, h1⟩ | ⟨g, cap, cur, rfl, _, _, h2, _⟩
  · exact ⟨none, 0, by rw [h1], fun h2 => by omega⟩
  · refine ⟨_, cap, rfl, fun _ => ⟨g, 0, rfl, h2, fun j s hj => ?_⟩⟩
    have := hc g rfl j (.string s) (by rw [strs_get, hj]; rfl)
    rw [Addr.add_lit] at this
    exact this
set_option maxRecDepth 100000 in
set_option maxHeartbeats 4000000 in
theorem clone_recs {w : World} {v : Value} {l : List ByteArray} (h : Recs w v l) (hl : l.length ≤ 1000000) :
    Calls Tryz.prog 81 #[v] w fun x w' => ∃ v', x = .returned v' ∧ Reads w' v' l ∧ Below w.heap.size w w' := by
  rcases h with ⟨rfl, rfl⟩ | ⟨g, o, cap, cur, rfl, hg, hlc, hcm, hoc, hc⟩
  · have hq : ∀ w, (binOp .eql 93 (.slice none 0 0) (.slice none 0 0)).run Tryz.prog w = .ok (.bool true) w := fun w => by kernel_rfl
    go_enter Tryz.func81, Tryz.ntmps81
    go_wp2_with fail
    go_ret
    exact ⟨_, rfl, ⟨none, 0, rfl, fun h => by cases h⟩, Below.refl _ _⟩
  · obtain ⟨i0, hi, hz0, hz1, hz2⟩ := info_parts infoStr
    have hb1 : Below w.heap.size w (w.alloc (.cells #[] 9)) := (Below.refl _ _).alloc (Nat.le_refl _) _
    have hgw : g < w.heap.size := (Array.getElem?_eq_some_iff.1 hg).1
    have hown : (w.alloc (.cells #[] 9)).ownsRow w.heap.size 9 1 (.slice (some ⟨w.heap.size, 0, none⟩) 0 0) 0 [] := by
      refine ⟨rfl, .inr ⟨w.heap.size, 0, #[], rfl, Nat.le_refl _, heap_alloc_new w _, Nat.le_refl _, by unfold maxLen; omega, rfl, rfl⟩⟩
    have hnews : ∀ j u, (l.map Value.string)[j]? = some u → (w.alloc (.cells #[] 9)).cell? ((⟨g, o, none⟩ : Addr).add j) = some u := by
      intro j u hj
      rw [strs_get] at hj
      obtain ⟨x, hx, rfl⟩ := Option.map_eq_some_iff.1 hj
      rw [Addr.add_lit, hb1.cell hgw, cell_of_row w g (o + j) cur _ (0, 0) hg]
      exact hc j x hx
    have h1 : ∀ u ∈ l.map Value.string, u.oneCell' = true := by
      intro u hu
      obtain ⟨x, _, rfl⟩ := List.mem_map.1 hu
      rfl
    have HO := Lib.hid hown
    have HN := Lib.hid hnews
    have H1 := Lib.hid h1
    have HB := Lib.hid hb1
    have HL := Lib.hid hl
    have hq : ∀ w, (binOp .eql 93 (.slice (some ⟨g, o, none⟩) l.length cap) (.slice none 0 0)).run Tryz.prog w = .ok (.bool false) w := fun w => by kernel_rfl
    clear hown hnews h1 hb1 hg hc hlc hcm hoc hgw hl
    go_enter Tryz.func81, Tryz.ntmps81
    go_wp2_with (at_builtin; refine wpList_append_own_at _ rfl (.tmp 5) (.tmp 6) 93 rfl w.heap.size 9 i0 _ 1 16 Tryz.underlying93 hi hz0 hz1 hz2 rfl (by decide) (.slice (some ⟨w.heap.size, 0, none⟩) 0 0) 0 [] rfl HO.out ⟨g, o, none⟩ l.length cap (l.map Value.string) rfl (by simp) HN.out H1.out (by have := HL.out; unfold maxLen; omega) (by have := HL.out; omega) HB.out.size ?_; intro v' w1 ho hg1 hn1 hl1; have HR := Lib.hid (And.intro ho hg1); clear ho hg1 hn1 hl1)
    go_ret
    obtain ⟨ho, hg1⟩ := HR.out
    rw [Nat.zero_add, List.nil_append] at ho
    refine ⟨v', rfl, owns_reads ho, HB.out.grown hg1 HB.out.size (fun k hk => ?_)⟩
    obtain rfl := Option.some.inj hk
    exact Nat.le_refl _
set_option maxRecDepth 100000 in
set_option maxHeartbeats 4000000 in
theorem jrecords_p (h : JC w c j st r H) (hr : r.recs.length ≤ 1000000) :
    Calls Tryz.prog 53 #[.pointer (some ⟨j, 0, none⟩)] w fun x w' => ∃ v, x = .returned v ∧ Reads w' v r.recs ∧ Below w.heap.size w w' := by
  obtain ⟨F, G, rfl, hd, hR, v, hc, hrec, hne, rfl⟩ := h
  obtain ⟨⟨c0, c1, c2, c3, c4⟩, _⟩ := hc
  have C := Lib.hid (clone_recs hrec hr)
  clear hd hR hrec hne hr
  go_enter Tryz.func53, Tryz.ntmps53
  go_wp2_with fail
  refine C.out.mono ?_
  rintro _ w1 ⟨v', rfl, h1, h2⟩
  have HX := Lib.hid (And.intro h1 h2)
  clear h1 h2
  go_wp2_with fail
  go_ret
  exact ⟨v', rfl, HX.out.1, HX.out.2⟩
set_option maxRecDepth 100000 in
set_option maxHeartbeats 4000000 in
theorem jadd_no (h : JC w c j st r H) (s : ByteArray) (p : Bool) (hrf : refS r s ≠ 0) :
    Calls Tryz.prog 60 #[.pointer (some ⟨j, 0, none⟩), .string s, .bool p] w fun x w' => x = .returned (.int .i64 (refS r s)) ∧ w = w' := by
  have RF := Lib.hid (jrefuses_p h s)
  have h4 : (refS r s != 0) = true := by rw [bne_iff_ne]; exact hrf
  generalize refS r s = e at *
  clear h hrf
  go_enter Tryz.func60, Tryz.ntmps60
  go_wp2_with fail
  refine RF.out.mono ?_
  rintro _ _ ⟨rfl, rfl⟩
  go_wp2_with fail
  go_ret
  exact ⟨rfl, rfl⟩
set_option maxRecDepth 100000 in
set_option maxHeartbeats 4000000 in
theorem jadd_err (h : JC w c j st r H) (hL : st.l.length ≤ 900) (s : ByteArray) (p : Bool) (hlib : LibAt w) (hrf : refS r s = 0) (he : (wrS st nLOG (leafS s) p).1 ≠ 0) :
    Calls Tryz.prog 60 #[.pointer (some ⟨j, 0, none⟩), .string s, .bool p] w fun x w' => x = .returned (.int .i64 (wrS st nLOG (leafS s) p).1) ∧ JTurns w c j H (wrS st nLOG (leafS s) p).2 ⟨r.first, r.recs, r.long, true⟩ w' := by
  have RF := Lib.hid (jrefuses_p h s)
  rw [hrf] at RF
  have LF := Lib.hid (jleaf_p s w hlib)
  obtain ⟨F, G, rfl, hd, hR, hJ⟩ := h
  have W := fun w1 (h1 : Rep w1 c F st) => wr_p h1 (by omega) nLOG (leafS s) (by decide) p
  generalize wrS st nLOG (leafS s) p = q at *
  obtain ⟨e, st1⟩ := q
  unfold nLOG at W
  simp only at W he ⊢
  have he' : (e != 0) = true := by rw [bne_iff_ne]; exact he
  have HW := Lib.hid W
  have HD := Lib.hid (And.intro hd (And.intro hR hJ))
  generalize leafS s = lf at *
  clear W hd hR hJ hlib hrf
  go_enter Tryz.func60, Tryz.ntmps60
  go_wp2_with fail
  refine RF.out.mono ?_
  rintro _ _ ⟨rfl, rfl⟩
  go_wp2_with fail
  refine LF.out.mono ?_
  rintro _ w1 ⟨rfl, hb1⟩
  have HJ1 := Lib.hid (HD.out.2.2.kept (fun k hk => hb1.block k (HD.out.2.2.lt k hk)))
  have HR1 := Lib.hid (HD.out.2.1.below hb1)
  have HB1 := Lib.hid hb1
  obtain ⟨v1, ⟨⟨x0, _⟩, _⟩, hxx⟩ := id HJ1.out
  clear hxx
  clear hb1
  go_wp2_with fail
  refine (HW.out w1 HR1.out).mono ?_
  rintro _ w2 ⟨rfl, ht⟩
  obtain ⟨H2, j2, k2, o2⟩ := JTurns.below HB1.out (jc_chest HD.out.1 HJ1.out ht)
  have HO := Lib.hid (And.intro k2 o2)
  have HJ := Lib.hid j2
  clear ht k2 o2 j2 x0
  go_wp2_with fail
  refine (jfail_p HJ.out e).mono ?_
  rintro _ w3 ⟨rfl, ht⟩
  have HT := Lib.hid (JTurns.next HO.out.1 HO.out.2 ht)
  clear ht
  go_wp2_with fail
  go_ret
  exact ⟨rfl, HT.out⟩
set_option maxRecDepth 100000 in
set_option maxHeartbeats 8000000 in
theorem jadd_ok (h : JC w c j st r H) (hL : st.l.length ≤ 900) (hr : r.recs.length ≤ 1000000) (hlong : r.long ≤ 1000000000) (s : ByteArray) (hs : s.size ≤ 400000) (p : Bool) (hlib : LibAt w) (hrf : refS r s = 0) {st1 : St} (he : wrS st nLOG (leafS s) p = (0, st1)) :
    Calls Tryz.prog 60 #[.pointer (some ⟨j, 0, none⟩), .string s, .bool p] w fun x w' => x = .returned (.int .i64 0) ∧ JTurns w c j H st1 ⟨r.first, r.recs ++ [s], r.long + (leafS s).size, r.down⟩ w' := by
  have RF := Lib.hid (jrefuses_p h s)
  rw [hrf] at RF
  have LF := Lib.hid (jleaf_p s w hlib)
  obtain ⟨F, G, rfl, hd, hR, hJ⟩ := h
  have W := fun w1 (h1 : Rep w1 c F st) => wr_p h1 (by omega) nLOG (leafS s) (by decide) p
  rw [he] at W
  unfold nLOG at W
  simp only at W
  have hlz : (leafS s).size ≤ 10000000 := by
    have := leafS_size hs
    have h2 := frameS_size s ⟨#[44]⟩
    rw [leafS_eq hs, ByteArray.size_append, markS_size]
    have h3 : (⟨#[44]⟩ : ByteArray).size = 1 := rfl
    have h4 := frameS_len s ⟨#[44]⟩ (by omega)
    have h5 := Lib.nDigits_le20 s.size (by omega)
    omega
  have HW := Lib.hid W
  have HD := Lib.hid (And.intro hd (And.intro hR hJ))
  have CL := Lib.hid (fun w1 => clone_p s (by omega) w1)
  have HRL := Lib.hid hr
  generalize leafS s = lf at *
  clear W hd hR hJ hlib hr hrf he
  go_enter Tryz.func60, Tryz.ntmps60
  go_wp2_with fail
  refine RF.out.mono ?_
  rintro _ _ ⟨rfl, rfl⟩
  go_wp2_with fail
  refine LF.out.mono ?_
  rintro _ w1 ⟨rfl, hb1⟩
  have HJ1 := Lib.hid (HD.out.2.2.kept (fun k hk => hb1.block k (HD.out.2.2.lt k hk)))
  have HR1 := Lib.hid (HD.out.2.1.below hb1)
  have HB1 := Lib.hid hb1
  obtain ⟨v1, ⟨⟨x0, _⟩, _⟩, hxx⟩ := id HJ1.out
  clear hxx
  clear hb1
  go_wp2_with fail
  refine (HW.out w1 HR1.out).mono ?_
  rintro _ w2 ⟨rfl, ht⟩
  obtain ⟨H2, ⟨F2, G2, rfl, hd2, hR2, v, hc2, hrec2, hne2, rfl⟩, k2, o2⟩ := JTurns.below HB1.out (jc_chest HD.out.1 HJ1.out ht)
  have HO := Lib.hid (And.intro k2 o2)
  have HX := Lib.hid (And.intro hd2 (And.intro hR2 (And.intro hc2 (And.intro hrec2 hne2))))
  obtain ⟨⟨y0, y1, y2, y3, y4⟩, z0, z1, z2, z3, z4⟩ := hc2
  have hjw : j < w2.heap.size := World.block_lt_of_cell? w2 _ y0
  obtain ⟨va, vc, hv⟩ := hrec2.shape
  subst hv
  clear ht k2 o2 hd2 hR2 hrec2 hne2 x0
  have hcl : ∀ (W : World) (ty : TypeId), (W.alloc (.cells #[.string s] ty)).cell? ⟨W.heap.size, 0, none⟩ = some (.string s) := by
    intro W ty
    go_simp
  have HCL := Lib.hid hcl
  have HRK : Hid (∀ w3, Below w2.heap.size w2 w3 → ∀ ty, Recs (w3.alloc (.cells #[.string s] ty)) (.slice va r.recs.length vc) r.recs) := Lib.hid (fun w3 hb ty => HX.out.2.2.2.1.kept (fun g hg => by
    have h1 := HX.out.2.2.2.1.lt hg
    rw [Below.heap_alloc _ _ _ (Nat.lt_of_lt_of_le h1 hb.size)]
    exact hb.block g h1))
  have HJK : Hid (∀ w3, Below w2.heap.size w2 w3 → ∀ ty w4, (w3.alloc (.cells #[.string s] ty)).grownBy w4 (rowOf (.slice va r.recs.length vc)) → w4.heap[j]? = w2.heap[j]?) := Lib.hid (fun w3 hb ty w4 hg => by
    rw [hg.block j (by simp; have := hb.size; omega) (fun e => HX.out.2.2.2.2 e.symm), Below.heap_alloc _ _ _ (Nat.lt_of_lt_of_le hjw hb.size)]
    exact hb.block j hjw)
  have HEND : Hid (∀ v' w4 w3, Below w2.heap.size w2 w3 → ∀ ty, Recs w4 v' (r.recs ++ [s]) → (w3.alloc (.cells #[.string s] ty)).grownBy w4 (rowOf (.slice va r.recs.length vc)) → (rowOf v' = rowOf (.slice va r.recs.length vc) ∨ rowOf v' = some (w3.alloc (.cells #[.string s] ty)).heap.size) →
      JTurns w2 c j (F2 ++ (j :: (rowOf (.slice va r.recs.length vc)).toList)) st1 ⟨r.first, r.recs ++ [s], r.long + lf.size, r.down⟩ ((w4.setCell ⟨j, 2, none⟩ v').setCell ⟨j, 3, none⟩ (.int .i64 ((r.long : Int) + (lf.size : Int))))) := Lib.hid (fun v' w4 w3 hb ty hrec hg hat => by
    have h1 : ((r.long : Int) + (lf.size : Int)) = ((r.long + lf.size : Nat) : Int) := by omega
    rw [h1]
    have hs := hb.size
    refine jc_append HX.out.1 HX.out.2.1 HX.out.2.2.1 HX.out.2.2.2.2 ((((Only.of_below hb _).alloc _).grown hg (fun k hk => .inl (by rw [hk]; simp)))) hrec (fun g hg' => ?_) _
    rcases hat with h | h
    · exact .inl (by rw [← h]; exact hg')
    · rw [h] at hg'
      have := Option.some.inj hg'
      simp at this
      exact .inr (by omega))
  go_wp2_with fail
  refine wp_region_held (S := fun _ => True) (by kernel_rfl) ?_
  change wpAnyH _ _ _ _ _ _ _ _ (World.drew _)
  refine wpAnyH_take (i := 0) (v := Value.pointer (some ⟨j, 0, none⟩)) rfl (by kernel_rfl) (by kernel_rfl) (by kernel_rfl) (fun _ _ _ h => h) (Or.inl ⟨by rfl, ?_⟩) trivial ?_
  · intro w' _; go_simp
  refine wpAnyH_take (i := 1) (v := Value.pointer (some ⟨j, 0, none⟩)) rfl (by kernel_rfl) (by kernel_rfl) (by kernel_rfl) (fun _ _ _ h => h) (Or.inl ⟨by rfl, ?_⟩) trivial ?_
  · intro w' _; go_simp
  refine wpAnyH_take (i := 2) (v := Value.pointer (some ⟨j, 0, none⟩)) rfl (by kernel_rfl) (by kernel_rfl) (by kernel_rfl) (fun _ _ _ h => h) (Or.inl ⟨by rfl, ?_⟩) trivial ?_
  · intro w' _; go_simp
  refine wpAnyH_take (i := 3) (v := Value.pointer (some ⟨j, 2, none⟩)) rfl (by kernel_rfl) (by kernel_rfl) (by kernel_rfl) (fun _ _ _ h => h) (Or.inl ⟨by rfl, ?_⟩) trivial ?_
  · intro w' _; go_simp
  refine wpAnyH_take (i := 5) (v := Value.string s) rfl (by kernel_rfl) (by kernel_rfl) (by kernel_rfl) (fun _ _ _ h => h) (Or.inl ⟨by rfl, ?_⟩) trivial ?_
  · intro w' _; go_simp
  refine wpAnyH_ready (rs := [4, 6]) (by kernel_rfl) (by simp) ?_
  refine AllReadyH.cons rfl (fun K hK => ?_) (AllReadyH.cons rfl (fun K hK => ?_) AllReadyH.nil)
  · go_simp
    refine hK.out _ _ trivial (fun _ => ?_)
    clear hK
    refine wpAnyH_ready (rs := [6]) (by kernel_rfl) (by simp) ?_
    refine AllReadyH.cons rfl (fun K hK => ?_) AllReadyH.nil
    go_simp
    refine (CL.out _).mono ?_
    rintro _ w3 ⟨rfl, hb3⟩
    have HB3 := Lib.hid (show Below w2.heap.size w2 w3 from (Below.refl _ _).drew.trans hb3)
    have hj3 : j < w3.heap.size := Nat.lt_of_lt_of_le hjw HB3.out.size
    have hj4 : ¬ j = w3.heap.size := by omega
    have yy : w3.cell? ⟨j, 2, none⟩ = some (.slice va r.recs.length vc) := by rw [HB3.out.cell hjw]; exact y2
    clear hb3
    go_simp
    refine hK.out _ _ trivial (fun _ => ?_)
    clear hK
    refine wpAnyH_ready (rs := [7]) (by kernel_rfl) (by simp) ?_
    refine AllReadyH.cons rfl (fun K hK => ?_) AllReadyH.nil
    go_simp
    refine hK.out _ _ trivial (fun _ => ?_)
    clear hK
    refine wpAnyH_ready (rs := [8]) (by kernel_rfl) (by simp) ?_
    refine AllReadyH.cons rfl (fun K hK => ?_) AllReadyH.nil
    rw [if_pos (by rfl)]
    refine op_append_recs rfl (.tmp 34) (.tmp 37) rfl (.slice va r.recs.length vc) r.recs rfl (HRK.out _ HB3.out _) (by have := HRL.out; omega) ⟨w3.heap.size, 0, none⟩ 1 s rfl (HCL.out _ _) ?_
    intro v' w4 h1 h2 h3
    obtain ⟨va', vc', rfl⟩ := h1.shape
    rw [List.length_append] at h1 h3
    have HA := Lib.hid (And.intro h1 (And.intro h2 h3))
    have kj : w4.heap[j]? = w2.heap[j]? := HJK.out _ HB3.out _ _ h2
    have u2 : w4.cell? ⟨j, 2, none⟩ = some (.slice va r.recs.length vc) := by rw [cell_of_block kj]; exact y2
    have u3 : w4.cell? ⟨j, 3, none⟩ = some (.int .i64 r.long) := by rw [cell_of_block kj]; exact y3
    have f2 : w4.frozen? ⟨j, 2, none⟩ = false := by rw [frozen_of_block kj]; exact z2
    have f3 : w4.frozen? ⟨j, 3, none⟩ = false := by rw [frozen_of_block kj]; exact z3
    clear h1 h2 h3 kj
    go_simp
    refine hK.out _ _ trivial (fun _ => ?_)
    clear hK
    refine wpAnyH_ready (rs := [9]) (by kernel_rfl) (by simp) ?_
    refine AllReadyH.cons rfl (fun K hK => ?_) AllReadyH.nil
    go_simp
    refine hK.out _ _ trivial (fun _ => ?_)
    clear hK
    refine wpAnyH_ready (rs := [10]) (by kernel_rfl) (by simp) ?_
    refine AllReadyH.cons rfl (fun K hK => ?_) AllReadyH.nil
    go_simp
    refine hK.out _ _ trivial (fun _ => ?_)
    clear hK
    refine wpAnyH_ready (rs := [11]) (by kernel_rfl) (by simp) ?_
    refine AllReadyH.cons rfl (fun K hK => ?_) AllReadyH.nil
    go_simp
    refine hK.out _ _ trivial (fun _ => ?_)
    clear hK
    refine wpAnyH_done (by kernel_rfl) ?_ _
    go_wp2_with fail
    go_ret
    exact ⟨rfl, JTurns.next HO.out.1 HO.out.2 (HEND.out _ _ _ HB3.out _ HA.out.1 HA.out.2.1 HA.out.2.2)⟩
  · go_simp
    refine (CL.out _).mono ?_
    rintro _ w3 ⟨rfl, hb3⟩
    have HB3 := Lib.hid (show Below w2.heap.size w2 w3 from (Below.refl _ _).drew.trans hb3)
    have hj3 : j < w3.heap.size := Nat.lt_of_lt_of_le hjw HB3.out.size
    have hj4 : ¬ j = w3.heap.size := by omega
    have yy : w3.cell? ⟨j, 2, none⟩ = some (.slice va r.recs.length vc) := by rw [HB3.out.cell hjw]; exact y2
    clear hb3
    go_simp
    refine hK.out _ _ trivial (fun _ => ?_)
    clear hK
    refine wpAnyH_ready (rs := [4, 7]) (by kernel_rfl) (by simp) ?_
    refine AllReadyH.cons rfl (fun K hK => ?_) (AllReadyH.cons rfl (fun K hK => ?_) AllReadyH.nil)
    · go_simp
      refine hK.out _ _ trivial (fun _ => ?_)
      clear hK
      refine wpAnyH_ready (rs := [7]) (by kernel_rfl) (by simp) ?_
      refine AllReadyH.cons rfl (fun K hK => ?_) AllReadyH.nil
      go_simp
      refine hK.out _ _ trivial (fun _ => ?_)
      clear hK
      refine wpAnyH_ready (rs := [8]) (by kernel_rfl) (by simp) ?_
      refine AllReadyH.cons rfl (fun K hK => ?_) AllReadyH.nil
      rw [if_pos (by rfl)]
      refine op_append_recs rfl (.tmp 34) (.tmp 37) rfl (.slice va r.recs.length vc) r.recs rfl (HRK.out _ HB3.out _) (by have := HRL.out; omega) ⟨w3.heap.size, 0, none⟩ 1 s rfl (HCL.out _ _) ?_
      intro v' w4 h1 h2 h3
      obtain ⟨va', vc', rfl⟩ := h1.shape
      rw [List.length_append] at h1 h3
      have HA := Lib.hid (And.intro h1 (And.intro h2 h3))
      have kj : w4.heap[j]? = w2.heap[j]? := HJK.out _ HB3.out _ _ h2
      have u2 : w4.cell? ⟨j, 2, none⟩ = some (.slice va r.recs.length vc) := by rw [cell_of_block kj]; exact y2
      have u3 : w4.cell? ⟨j, 3, none⟩ = some (.int .i64 r.long) := by rw [cell_of_block kj]; exact y3
      have f2 : w4.frozen? ⟨j, 2, none⟩ = false := by rw [frozen_of_block kj]; exact z2
      have f3 : w4.frozen? ⟨j, 3, none⟩ = false := by rw [frozen_of_block kj]; exact z3
      clear h1 h2 h3 kj
      go_simp
      refine hK.out _ _ trivial (fun _ => ?_)
      clear hK
      refine wpAnyH_ready (rs := [9]) (by kernel_rfl) (by simp) ?_
      refine AllReadyH.cons rfl (fun K hK => ?_) AllReadyH.nil
      go_simp
      refine hK.out _ _ trivial (fun _ => ?_)
      clear hK
      refine wpAnyH_ready (rs := [10]) (by kernel_rfl) (by simp) ?_
      refine AllReadyH.cons rfl (fun K hK => ?_) AllReadyH.nil
      go_simp
      refine hK.out _ _ trivial (fun _ => ?_)
      clear hK
      refine wpAnyH_ready (rs := [11]) (by kernel_rfl) (by simp) ?_
      refine AllReadyH.cons rfl (fun K hK => ?_) AllReadyH.nil
      go_simp
      refine hK.out _ _ trivial (fun _ => ?_)
      clear hK
      refine wpAnyH_done (by kernel_rfl) ?_ _
      go_wp2_with fail
      go_ret
      exact ⟨rfl, JTurns.next HO.out.1 HO.out.2 (HEND.out _ _ _ HB3.out _ HA.out.1 HA.out.2.1 HA.out.2.2)⟩
    · go_simp
      refine hK.out _ _ trivial (fun _ => ?_)
      clear hK
      refine wpAnyH_ready (rs := [4]) (by kernel_rfl) (by simp) ?_
      refine AllReadyH.cons rfl (fun K hK => ?_) AllReadyH.nil
      go_simp
      refine hK.out _ _ trivial (fun _ => ?_)
      clear hK
      refine wpAnyH_ready (rs := [8]) (by kernel_rfl) (by simp) ?_
      refine AllReadyH.cons rfl (fun K hK => ?_) AllReadyH.nil
      rw [if_pos (by rfl)]
      refine op_append_recs rfl (.tmp 34) (.tmp 37) rfl (.slice va r.recs.length vc) r.recs rfl (HRK.out _ HB3.out _) (by have := HRL.out; omega) ⟨w3.heap.size, 0, none⟩ 1 s rfl (HCL.out _ _) ?_
      intro v' w4 h1 h2 h3
      obtain ⟨va', vc', rfl⟩ := h1.shape
      rw [List.length_append] at h1 h3
      have HA := Lib.hid (And.intro h1 (And.intro h2 h3))
      have kj : w4.heap[j]? = w2.heap[j]? := HJK.out _ HB3.out _ _ h2
      have u2 : w4.cell? ⟨j, 2, none⟩ = some (.slice va r.recs.length vc) := by rw [cell_of_block kj]; exact y2
      have u3 : w4.cell? ⟨j, 3, none⟩ = some (.int .i64 r.long) := by rw [cell_of_block kj]; exact y3
      have f2 : w4.frozen? ⟨j, 2, none⟩ = false := by rw [frozen_of_block kj]; exact z2
      have f3 : w4.frozen? ⟨j, 3, none⟩ = false := by rw [frozen_of_block kj]; exact z3
      clear h1 h2 h3 kj
      go_simp
      refine hK.out _ _ trivial (fun _ => ?_)
      clear hK
      refine wpAnyH_ready (rs := [9]) (by kernel_rfl) (by simp) ?_
      refine AllReadyH.cons rfl (fun K hK => ?_) AllReadyH.nil
      go_simp
      refine hK.out _ _ trivial (fun _ => ?_)
      clear hK
      refine wpAnyH_ready (rs := [10]) (by kernel_rfl) (by simp) ?_
      refine AllReadyH.cons rfl (fun K hK => ?_) AllReadyH.nil
      go_simp
      refine hK.out _ _ trivial (fun _ => ?_)
      clear hK
      refine wpAnyH_ready (rs := [11]) (by kernel_rfl) (by simp) ?_
      refine AllReadyH.cons rfl (fun K hK => ?_) AllReadyH.nil
      go_simp
      refine hK.out _ _ trivial (fun _ => ?_)
      clear hK
      refine wpAnyH_done (by kernel_rfl) ?_ _
      go_wp2_with fail
      go_ret
      exact ⟨rfl, JTurns.next HO.out.1 HO.out.2 (HEND.out _ _ _ HB3.out _ HA.out.1 HA.out.2.1 HA.out.2.2)⟩
theorem ref_zero {r : Jr} {s : ByteArray} (h : refS r s = 0) : r.down = false ∧ s.size ≤ 400000 := by
  unfold refS at h
  cases hx : r.down with
  | true => rw [hx, if_pos rfl] at h; cases h
  | false =>
    rw [hx, if_neg (by decide)] at h
    by_cases h2 : 400000 < s.size
    · rw [if_pos h2] at h; cases h
    · exact ⟨rfl, by omega⟩
theorem jadd_p (h : JC w c j st r H) (hL : st.l.length ≤ 900) (hr : r.recs.length ≤ 1000000) (hlong : r.long ≤ 1000000000) (s : ByteArray) (p : Bool) (hlib : LibAt w) :
    Calls Tryz.prog 60 #[.pointer (some ⟨j, 0, none⟩), .string s, .bool p] w fun x w' => x = .returned (.int .i64 (addS st r s p).1) ∧ JTurns w c j H (addS st r s p).2.1 (addS st r s p).2.2 w' := by
  by_cases hrf : refS r s = 0
  · obtain ⟨hd, hs⟩ := ref_zero hrf
    have e0 : addS st r s p = if (wrS st nLOG (leafS s) p).1 ≠ 0 then ((wrS st nLOG (leafS s) p).1, (wrS st nLOG (leafS s) p).2, ⟨r.first, r.recs, r.long, true⟩)
        else (0, (wrS st nLOG (leafS s) p).2, ⟨r.first, r.recs ++ [s], r.long + (leafS s).size, false⟩) := by
      unfold addS
      rw [if_neg (by rw [hd]; decide), if_neg (by omega)]
    rw [e0]
    by_cases he : (wrS st nLOG (leafS s) p).1 = 0
    · rw [if_neg (by rw [he]; decide)]
      have := jadd_ok h hL hr hlong s hs p hlib hrf (st1 := (wrS st nLOG (leafS s) p).2) (by rw [← he])
      rw [hd] at this
      exact this
    · rw [if_pos he]
      exact jadd_err h hL s p hlib hrf he
  · have e0 : addS st r s p = (refS r s, st, r) := by
      unfold addS refS
      unfold refS at hrf
      split
      · rfl
      · rename_i h1
        rw [if_neg h1] at hrf
        split
        · rfl
        · rename_i h2
          rw [if_neg h2] at hrf
          exact absurd rfl hrf
    rw [e0]
    exact (jadd_no h s p hrf).mono fun x w' ⟨h1, h2⟩ => ⟨h1, by subst h2; exact JTurns.same h⟩
end
end Go.Proofs.YtaacdggjkfmehaaGreatDoor
namespace Go.Proofs.YtaacdggjkfmehaaGreatDoor
open Go.RowKit Go.Maps Go.Proofs.MapD Go.Proofs.Chest
section
variable {w : World} {c j : Nat} {F H : List Nat} {st : St} {r : Jr}
set_option maxRecDepth 100000 in
set_option maxHeartbeats 4000000 in
theorem repl_p (h : Rep w c F st) (hL : st.l.length ≤ 900) (t : ByteArray) :
    Calls Tryz.prog 85 #[.pointer (some ⟨c, 0, none⟩), .string t] w fun x w' => x = .returned (.int .i64 (replS st t).1) ∧ Turns w c F (replS st t).2 w' := by
  have A := Lib.hid (aside_p h (by omega))
  have hlen := len_aside st
  unfold replS
  generalize asideS st = st1 at *
  have W := fun w1 F1 (h1 : Rep w1 c F1 st1) => wr_p h1 (by omega) nNEW t (by decide) true
  have hlen2 := len_wr st1 nNEW t true
  generalize wrS st1 nNEW t true = q at *
  obtain ⟨e, st2⟩ := q
  simp only at W hlen2 ⊢
  have C := fun w2 F2 (h2 : Rep w2 c F2 st2) => rcall_p h2 (by omega) nNEW nLOG (by decide) (by decide)
  generalize call st2 nNEW nLOG = q at *
  obtain ⟨e2, st3⟩ := q
  unfold nNEW at W
  unfold nNEW nLOG at C
  simp only at C
  have HW := Lib.hid W
  have HC := Lib.hid C
  clear W C h
  by_cases he : e = 0
  · subst he
    rw [if_neg (by decide)]
    go_enter Tryz.func85, Tryz.ntmps85
    go_wp2_with fail
    refine A.out.mono ?_
    rintro _ w1 ⟨rfl, F1, r1, k1, o1⟩
    have H1 := Lib.hid (And.intro r1 (And.intro k1 o1))
    clear r1 k1 o1
    go_wp2_with fail
    refine (HW.out w1 F1 H1.out.1).mono ?_
    rintro _ w2 ⟨rfl, F2, r2, k2, o2⟩
    have H2 := Lib.hid (And.intro r2 (And.intro k2 o2))
    clear r2 k2 o2
    go_wp2_with fail
    refine (HC.out w2 F2 H2.out.1).mono ?_
    rintro _ w3 ⟨rfl, ht⟩
    have HT := Lib.hid (Turns.next H1.out.2.1 H1.out.2.2 (Turns.next H2.out.2.1 H2.out.2.2 ht))
    clear ht
    go_wp2_with fail
    go_ret
    exact ⟨rfl, HT.out⟩
  · have he' : (e != 0) = true := by rw [bne_iff_ne]; exact he
    rw [if_pos he]
    go_enter Tryz.func85, Tryz.ntmps85
    go_wp2_with fail
    refine A.out.mono ?_
    rintro _ w1 ⟨rfl, F1, r1, k1, o1⟩
    have H1 := Lib.hid (And.intro r1 (And.intro k1 o1))
    clear r1 k1 o1
    go_wp2_with fail
    refine (HW.out w1 F1 H1.out.1).mono ?_
    rintro _ w2 ⟨rfl, ht⟩
    have HT := Lib.hid (Turns.next H1.out.2.1 H1.out.2.2 ht)
    clear ht
    go_wp2_with fail
    go_ret
    exact ⟨rfl, HT.out⟩
set_option maxRecDepth 100000 in
set_option maxHeartbeats 4000000 in
theorem jlay_no (h : JC w c j st r H) (s : ByteArray) (hrf : refS r s ≠ 0) :
    Calls Tryz.prog 58 #[.pointer (some ⟨j, 0, none⟩), .string s] w fun x w' => x = .returned (.int .i64 (refS r s)) ∧ w = w' := by
  have RF := Lib.hid (jrefuses_p h s)
  have h4 : (refS r s != 0) = true := by rw [bne_iff_ne]; exact hrf
  generalize refS r s = e at *
  clear h hrf
  go_enter Tryz.func58, Tryz.ntmps58
  go_wp2_with fail
  refine RF.out.mono ?_
  rintro _ _ ⟨rfl, rfl⟩
  go_wp2_with fail
  go_ret
  exact ⟨rfl, rfl⟩
set_option maxRecDepth 100000 in
set_option maxHeartbeats 4000000 in
theorem jlay_err (h : JC w c j st r H) (hL : st.l.length ≤ 900) (s : ByteArray) (hlib : LibAt w) (hrf : refS r s = 0) (he : (replS st (leafS s)).1 ≠ 0) :
    Calls Tryz.prog 58 #[.pointer (some ⟨j, 0, none⟩), .string s] w fun x w' => x = .returned (.int .i64 (replS st (leafS s)).1) ∧ JTurns w c j H (replS st (leafS s)).2 ⟨r.first, r.recs, r.long, true⟩ w' := by
  have RF := Lib.hid (jrefuses_p h s)
  rw [hrf] at RF
  have LF := Lib.hid (jleaf_p s w hlib)
  obtain ⟨F, G, rfl, hd, hR, hJ⟩ := h
  have W := fun w1 (h1 : Rep w1 c F st) => repl_p h1 hL (leafS s)
  generalize replS st (leafS s) = q at *
  obtain ⟨e, st1⟩ := q
  simp only at W he ⊢
  have he' : (e != 0) = true := by rw [bne_iff_ne]; exact he
  have HW := Lib.hid W
  have HD := Lib.hid (And.intro hd (And.intro hR hJ))
  generalize leafS s = lf at *
  clear W hd hR hJ hlib hrf
  go_enter Tryz.func58, Tryz.ntmps58
  go_wp2_with fail
  refine RF.out.mono ?_
  rintro _ _ ⟨rfl, rfl⟩
  go_wp2_with fail
  refine LF.out.mono ?_
  rintro _ w1 ⟨rfl, hb1⟩
  have HJ1 := Lib.hid (HD.out.2.2.kept (fun k hk => hb1.block k (HD.out.2.2.lt k hk)))
  have HR1 := Lib.hid (HD.out.2.1.below hb1)
  have HB1 := Lib.hid hb1
  obtain ⟨v1, ⟨⟨x0, _⟩, _⟩, hxx⟩ := id HJ1.out
  clear hb1 hxx
  go_wp2_with fail
  refine (HW.out w1 HR1.out).mono ?_
  rintro _ w2 ⟨rfl, ht⟩
  obtain ⟨H2, j2, k2, o2⟩ := JTurns.below HB1.out (jc_chest HD.out.1 HJ1.out ht)
  have HO := Lib.hid (And.intro k2 o2)
  have HJ := Lib.hid j2
  clear ht k2 o2 j2 x0
  go_wp2_with fail
  refine (jfail_p HJ.out e).mono ?_
  rintro _ w3 ⟨rfl, ht⟩
  have HT := Lib.hid (JTurns.next HO.out.1 HO.out.2 ht)
  clear ht
  go_wp2_with fail
  go_ret
  exact ⟨rfl, HT.out⟩
theorem jc_lay {w w4 : World} {c j : Nat} {F : List Nat} {st : St} {r : Jr} {v : Value} {s : ByteArray} (hd : ∀ k ∈ F, k ∉ j :: (rowOf v).toList) (hR : Rep w c F st) (hc : JCells w j c v r)
    (hb : Below w.heap.size w w4) (n : Nat) :
    JTurns w c j (F ++ (j :: (rowOf v).toList)) st ⟨s, [], n, r.down⟩ (((w4.setCell ⟨j, 1, none⟩ (.string s)).setCell ⟨j, 2, none⟩ (.slice none 0 0)).setCell ⟨j, 3, none⟩ (.int .i64 n)) := by
  have hjw : j < w.heap.size := hc.lt
  have hc4 := hc.kept (hb.block j hjw)
  obtain ⟨⟨c0, c1, c2, c3, c4⟩, z0, z1, z2, z3, z4⟩ := hc4
  have hkF : ∀ k ∈ F, (((w4.setCell ⟨j, 1, none⟩ (.string s)).setCell ⟨j, 2, none⟩ (.slice none 0 0)).setCell ⟨j, 3, none⟩ (.int .i64 n)).heap[k]? = w.heap[k]? := fun k hk => by
    have h1 := hd k hk
    simp only [List.mem_cons, not_or] at h1
    rw [Below.heap_setCell _ _ _ _ (fun e => h1.1 (by simp [e])), Below.heap_setCell _ _ _ _ (fun e => h1.1 (by simp [e])), Below.heap_setCell _ _ _ _ (fun e => h1.1 (by simp [e]))]
    exact hb.block k (hR.lt k hk)
  refine ⟨F ++ [j], ⟨F, [j], rfl, fun k hk hm => ?_, hR.kept hkF, .slice none 0 0, ⟨⟨?_, ?_, ?_, ?_, ?_⟩, ?_, ?_, ?_, ?_, ?_⟩, .nil _, (by intro e; cases e), rfl⟩, fun k hk => ?_, ?_⟩
  · obtain rfl : k = j := by simpa using hm
    exact hd k hk (by simp)
  · go_simp
  · go_simp
  · go_simp
  · go_simp
  · go_simp
  · go_simp
  · go_simp
  · go_simp
  · go_simp
  · go_simp
  · left
    rcases List.mem_append.1 hk with hk | hk
    · simp [hk]
    · obtain rfl : k = j := by simpa using hk
      simp
  · exact ((((Only.of_below hb _).setCell (.inl (by simp)) _).setCell (.inl (by simp)) _).setCell (.inl (by simp)) _)
set_option maxRecDepth 100000 in
set_option maxHeartbeats 8000000 in
theorem jlay_ok (h : JC w c j st r H) (hL : st.l.length ≤ 900) (s : ByteArray) (hs : s.size ≤ 400000) (hlib : LibAt w) (hrf : refS r s = 0) {st1 : St} (he : replS st (leafS s) = (0, st1)) :
    Calls Tryz.prog 58 #[.pointer (some ⟨j, 0, none⟩), .string s] w fun x w' => x = .returned (.int .i64 0) ∧ JTurns w c j H st1 ⟨s, [], (leafS s).size, r.down⟩ w' := by
  have RF := Lib.hid (jrefuses_p h s)
  rw [hrf] at RF
  have LF := Lib.hid (jleaf_p s w hlib)
  obtain ⟨F, G, rfl, hd, hR, hJ⟩ := h
  have W := fun w1 (h1 : Rep w1 c F st) => repl_p h1 hL (leafS s)
  rw [he] at W
  simp only at W
  have HW := Lib.hid W
  have HD := Lib.hid (And.intro hd (And.intro hR hJ))
  have CL := Lib.hid (fun w1 => clone_p s (by omega) w1)
  generalize leafS s = lf at *
  clear W hd hR hJ hlib hrf he
  go_enter Tryz.func58, Tryz.ntmps58
  go_wp2_with fail
  refine RF.out.mono ?_
  rintro _ _ ⟨rfl, rfl⟩
  go_wp2_with fail
  refine LF.out.mono ?_
  rintro _ w1 ⟨rfl, hb1⟩
  have HJ1 := Lib.hid (HD.out.2.2.kept (fun k hk => hb1.block k (HD.out.2.2.lt k hk)))
  have HR1 := Lib.hid (HD.out.2.1.below hb1)
  have HB1 := Lib.hid hb1
  obtain ⟨v1, ⟨⟨x0, _⟩, _⟩, hxx⟩ := id HJ1.out
  clear hb1 hxx
  go_wp2_with fail
  refine (HW.out w1 HR1.out).mono ?_
  rintro _ w2 ⟨rfl, ht⟩
  obtain ⟨H2, ⟨F2, G2, rfl, hd2, hR2, v, hc2, hrec2, hne2, rfl⟩, k2, o2⟩ := JTurns.below HB1.out (jc_chest HD.out.1 HJ1.out ht)
  have HO := Lib.hid (And.intro k2 o2)
  have HX := Lib.hid (And.intro hd2 (And.intro hR2 hc2))
  obtain ⟨⟨y0, y1, y2, y3, y4⟩, z0, z1, z2, z3, z4⟩ := hc2
  have hjw : j < w2.heap.size := World.block_lt_of_cell? w2 _ y0
  clear ht k2 o2 hd2 hR2 hrec2 hne2 x0
  go_wp2_with fail
  refine (CL.out _).mono ?_
  rintro _ w3 ⟨rfl, hb3⟩
  have q1 : w3.cell? ⟨j, 1, none⟩ = some (.string r.first) := by rw [hb3.cell hjw]; exact y1
  have q2 : w3.cell? ⟨j, 2, none⟩ = some v := by rw [hb3.cell hjw]; exact y2
  have q3 : w3.cell? ⟨j, 3, none⟩ = some (.int .i64 r.long) := by rw [hb3.cell hjw]; exact y3
  have f1 : w3.frozen? ⟨j, 1, none⟩ = false := by rw [hb3.frozen hjw]; exact z1
  have f2 : w3.frozen? ⟨j, 2, none⟩ = false := by rw [hb3.frozen hjw]; exact z2
  have f3 : w3.frozen? ⟨j, 3, none⟩ = false := by rw [hb3.frozen hjw]; exact z3
  have HB3 := Lib.hid hb3
  clear hb3
  go_wp2_with fail
  go_ret
  exact ⟨rfl, JTurns.next HO.out.1 HO.out.2 (jc_lay HX.out.1 HX.out.2.1 HX.out.2.2 HB3.out lf.size)⟩
theorem jlay_p (h : JC w c j st r H) (hL : st.l.length ≤ 900) (s : ByteArray) (hlib : LibAt w) :
    Calls Tryz.prog 58 #[.pointer (some ⟨j, 0, none⟩), .string s] w fun x w' => x = .returned (.int .i64 (layS st r s).1) ∧ JTurns w c j H (layS st r s).2.1 (layS st r s).2.2 w' := by
  by_cases hrf : refS r s = 0
  · obtain ⟨hd, hs⟩ := ref_zero hrf
    have e0 : layS st r s = if (replS st (leafS s)).1 ≠ 0 then ((replS st (leafS s)).1, (replS st (leafS s)).2, ⟨r.first, r.recs, r.long, true⟩)
        else (0, (replS st (leafS s)).2, ⟨s, [], (leafS s).size, false⟩) := by
      unfold layS
      rw [if_neg (by rw [hd]; decide), if_neg (by omega)]
    rw [e0]
    by_cases he : (replS st (leafS s)).1 = 0
    · rw [if_neg (by rw [he]; decide)]
      have := jlay_ok h hL s hs hlib hrf (st1 := (replS st (leafS s)).2) (by rw [← he])
      rw [hd] at this
      exact this
    · rw [if_pos he]
      exact jlay_err h hL s hlib hrf he
  · have e0 : layS st r s = (refS r s, st, r) := by
      unfold layS refS
      unfold refS at hrf
      split
      · rfl
      · rename_i h1
        rw [if_neg h1] at hrf
        split
        · rfl
        · rename_i h2
          rw [if_neg h2] at hrf
          exact absurd rfl hrf
    rw [e0]
    exact (jlay_no h s hrf).mono fun x w' ⟨h1, h2⟩ => ⟨h1, by subst h2; exact JTurns.same h⟩
end
end Go.Proofs.YtaacdggjkfmehaaGreatDoor
