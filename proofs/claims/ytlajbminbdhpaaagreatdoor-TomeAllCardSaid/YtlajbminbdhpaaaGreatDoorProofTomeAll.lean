/-
  TomeAll: for every input the law returns true, and each argument reads behind the call as it read before; under the row's condition, which the card ties to the program's text: the listed variables of the library are as their initialisers lay them.
-/
import Derived.Test.YtlajbminbdhpaaaGreatDoorFrame
import Derived.Test.YtlajbminbdhpaaaGreatDoorLawTomeAll
import Derived.Test.YtlajbminbdhpaaaGreatDoorM30
import Derived.SliceStrings
import Derived.Deep.Slices
import Derived.Carry
import Derived.Test.YtlajbminbdhpaaaGreatDoorCards
namespace Go.Proofs.YtlajbminbdhpaaaGreatDoor.tomeAll
open Go.ChangeShapes Go.WideShapes Go.ChangeAt Go.RowKit Go.ChangeMaps

theorem trod_three {H : Type} {enc : TypeId × Value → H} {P : Program} {w : World} {base : Nat} {spare : Nat → Bool} {held : Bool} {t : TypeId} {f0 f1 f2 : Field} {fuel : Nat} {cs : List Value} {x : DataW H × List MemPlace} (ht : P.underlying t = some (.struct #[f0, f1, f2]))
    (h : DataW.trod enc P w base spare held fuel t cs = some x) :
    ∃ y0 y1 y2 n, DataW.trod enc P w base spare held n f0.type ((cs.drop f0.offset).take (P.cellsOf f0.type)) = some y0 ∧ DataW.trod enc P w base spare held n f1.type ((cs.drop f1.offset).take (P.cellsOf f1.type)) = some y1 ∧ DataW.trod enc P w base spare held n f2.type ((cs.drop f2.offset).take (P.cellsOf f2.type)) = some y2 := by
  obtain ⟨xs, n, _, rfl, hl, hlen, hf⟩ := DataW.trod_struct ht h
  match xs, hlen with
  | [y0, y1, y2], _ => exact ⟨y0, y1, y2, n, by simpa using hf 0 f0 rfl, by simpa using hf 1 f1 rfl, by simpa using hf 2 f2 rfl⟩

theorem cellsI64 : Tryz.prog.cellsOf 2 = 1 := by kernel_rfl
theorem cellsStr : Tryz.prog.cellsOf 9 = 1 := by kernel_rfl
theorem cellsBool : Tryz.prog.cellsOf 4 = 1 := by kernel_rfl
theorem cellsVs : Tryz.prog.cellsOf 22 = 1 := by kernel_rfl
theorem cellsVer : Tryz.prog.cellsOf 26 = 3 := by kernel_rfl
theorem cellsEnt : Tryz.prog.cellsOf 24 = 2 := by kernel_rfl

set_option maxRecDepth 100000 in
theorem trod_ver {H : Type} {enc : TypeId × Value → H} {W : World} {fuel : Nat} {l : List Value} {x : DataW H × List MemPlace} (hl : l.length = 3)
    (hf : DataW.trod enc Tryz.prog W 0 (fun _ => true) true fuel 26 l = some x) : ∃ a : Ve, l = a.cells := by
  match l, hl with
  | [c0, c1, c2], _ =>
      obtain ⟨y0, y1, y2, n, t0, t1, t2⟩ := trod_three Tryz.underlying26 hf
      simp only [cellsStr, cellsI64, cellsBool, List.drop, List.take] at t0 t1 t2
      obtain ⟨z0, h0, _⟩ := DataW.trod_int Tryz.underlying2 t0
      obtain ⟨z1, h1, _⟩ := DataW.trod_bool Tryz.underlying4 t1
      obtain ⟨z2, h2, _⟩ := DataW.trod_string Tryz.underlying9 t2
      simp only [List.cons.injEq, and_true] at h0 h1 h2
      subst h0 h1 h2
      exact ⟨⟨z0, z1, z2⟩, rfl⟩

set_option maxRecDepth 100000 in
theorem open_version {H : Type} {enc : TypeId × Value → H} {W : World} {b0 : Nat} {v : Value} {d : DataW H} {ps : List MemPlace} (hval : Value.okWide Tryz.prog W .any b0 26 v)
    (hd : DataW.Trod enc Tryz.prog W 0 (fun _ => true) true 26 v d ps) : ∃ a : Ve, v = .agg #[.int .i64 a.ver, .bool a.gone, .string a.body] := by
  unfold Value.okWide at hval
  rw [Tryz.underlying26] at hval
  obtain ⟨cs, rfl, hs, _⟩ := hval
  rw [cellsVer] at hs
  obtain ⟨fuel, hf⟩ := hd
  obtain ⟨l⟩ := cs
  obtain ⟨a, ha⟩ := trod_ver (l := l) hs hf
  subst ha
  exact ⟨a, rfl⟩

set_option maxRecDepth 100000 in
theorem open_vs {H : Type} {enc : TypeId × Value → H} {W : World} {c : Value} {fuel : Nat} {x : DataW H × List MemPlace}
    (hf : DataW.trod enc Tryz.prog W 0 (fun _ => true) true fuel 22 [c] = some x) (hok : ∀ a len cap, c = .slice (some a) len cap → a.spot = none ∧ a.block < W.heap.size) : ∃ l : List Ve, VsAt W c l ∧ l.length ≤ 9223372036854775807 := by
  rcases Deep.open_slice Tryz.underlying22 hf with ⟨hcs, hx⟩ | ⟨a, len, cap, m, n, D, Pl, hcs, _, hl, hm, hmm, hx, hel⟩
  · simp only [List.cons.injEq, and_true] at hcs
    exact ⟨[], .inl ⟨hcs, rfl⟩, by simp⟩
  · simp only [List.cons.injEq, and_true] at hcs
    subst hcs
    simp only [if_true] at hmm
    subst hmm
    clear hx
    have hx : ∀ i, i < m → ∃ z : Ve, W.cell? (a.add (i * 3)) = some (.int .i64 z.ver) ∧ W.cell? (a.add (i * 3 + 1)) = some (.bool z.gone) ∧ W.cell? (a.add (i * 3 + 2)) = some (.string z.body) := fun i hi => by
      obtain ⟨cs', hc0, ht0⟩ := hel i hi
      rw [cellsVer] at hc0
      obtain ⟨_, hl4, hcell⟩ := World.cells?_some hc0
      obtain ⟨z, rfl⟩ := trod_ver hl4 ht0
      have e0 := hcell 0 (by omega)
      have e1 := hcell 1 (by omega)
      have e2 := hcell 2 (by omega)
      rw [Deep.add_add] at e0 e1 e2
      exact ⟨z, by simpa [Ve.cells] using e0, by simpa [Ve.cells] using e1, by simpa [Ve.cells] using e2⟩
    haveI : Inhabited Ve := ⟨Ve.zero⟩
    obtain ⟨f, hf2⟩ := Deep.choose_lt hx
    unfold maxLen at hm
    obtain ⟨hsp, hbl⟩ := hok a len m rfl
    · obtain ⟨b, off, spot⟩ := a
      obtain rfl : spot = none := hsp
      have add1 : ∀ j, (⟨b, off, none⟩ : Addr).add j = ⟨b, off + j, none⟩ := fun j => Addr.add_lit ..
      simp only [add1] at hf2
      refine ⟨(List.range len).map f, .inr ⟨b, off, m, by simp, by simpa using hl, by unfold maxLen; omega, hbl, ?_⟩, by simp; omega⟩
      intro j v hv
      have hj : j < len := by
        have := (List.getElem?_eq_some_iff.1 hv).1
        simpa using this
      rw [List.getElem?_map, List.getElem?_range hj, Option.map_some, Option.some.injEq] at hv
      subst hv
      have := hf2 j (by omega)
      simpa [Nat.add_assoc] using this

set_option maxRecDepth 100000 in
theorem open_entry {H : Type} {enc : TypeId × Value → H} {W : World} {b0 : Nat} {v : Value} {d : DataW H} {ps : List MemPlace} (hval : Value.okWide Tryz.prog W .any b0 24 v)
    (hd : DataW.Trod enc Tryz.prog W 0 (fun _ => true) true 24 v d ps) : ∃ (key : ByteArray) (c : Value) (l : List Ve), v = .agg #[.string key, c] ∧ VsAt W c l ∧ l.length ≤ 9223372036854775807 := by
  unfold Value.okWide at hval
  rw [Tryz.underlying24] at hval
  obtain ⟨cs, rfl, hs, ts, hts, _, hrow⟩ := hval
  rw [show Tryz.prog.cellTypes Tryz.prog.depth 24 = some [9, 22] by kernel_rfl, Option.some.injEq] at hts
  subst hts
  rw [cellsEnt] at hs
  obtain ⟨fuel, hf⟩ := hd
  obtain ⟨l⟩ := cs
  match l, hs with
  | [c0, c1], _ =>
      obtain ⟨y0, y1, n, _, _, t0, t1⟩ := trod_struct2 Tryz.underlying24 hf
      simp only [Value.cells, cellsStr, cellsVs, List.drop, List.take] at t0 t1
      obtain ⟨z0, h0, _⟩ := DataW.trod_string Tryz.underlying9 t0
      simp only [List.cons.injEq, and_true] at h0
      subst h0
      have hok : ∀ a len cap, c1 = .slice (some a) len cap → a.spot = none ∧ a.block < W.heap.size := by
        rintro a len cap rfl
        obtain ⟨u, hu, hc⟩ := hrow 1 _ rfl
        obtain rfl : 22 = u := Option.some.inj hu
        unfold Cell.okWide Cell.ok at hc
        rw [Tryz.underlying22] at hc
        obtain ⟨_, _, _, h1, row, cells, h2, _⟩ := hc
        refine ⟨h1, ?_⟩
        rcases Nat.lt_or_ge a.block W.heap.size with h | h
        · exact h
        · rw [World.shape?, Array.getElem?_eq_none h] at h2
          cases h2
      obtain ⟨l, hv, hl⟩ := open_vs t1 hok
      exact ⟨z0, c1, l, rfl, hv, hl⟩

set_option maxRecDepth 100000 in
theorem lifted (os : Os) (started : os.Started) (H : Type) (enc : TypeId × Value → H) :
    ReturnsInHanded {} Tryz.checked os 3 .any (fun w args => (Rows.tomeAllSpec.pre enc Tryz.prog Tryz.f3 [] false w args ∧ laidMetH Tryz.prog laidAll w) ∧ sizedMet enc Tryz.prog Tryz.f3 (OpenSpec.ofChange Rows.tomeAllSpec) false w args)
      (Rows.tomeAllSpec.post enc Tryz.prog Tryz.f3 false true false false) := by
  refine returnsInHanded_of_change_and (C := Tryz.checked) (X := fun w _ => laidMetH Tryz.prog laidAll w) (fun _ _ _ hh h => h.of_heap hh) own started (by kernel_rfl) Tryz.func3
    (ChangeSpec.witness_shaped (enc := enc) (C := Tryz.checked) (os := os) (X := fun w _ => laidMetH Tryz.prog laidAll w) false (World.doorLaid Tryz.prog 62 os) #[.agg #[.string ⟨#[]⟩, .slice none 0 0], .agg #[.int .i64 0, .bool false, .string ⟨#[]⟩], .int .i64 0, .int .i64 0, .string ⟨#[]⟩] 8 rfl (World.shaped_of_RefB (by kernel_rfl) (by kernel_rfl)) (by kernel_rfl) (by kernel_rfl) (by kernel_rfl) (door_met os _)) ?_
  intro W base args ds gs before hval0 hW _ _ hL _
  have hval : ∀ (j : Nat) t v, Tryz.f3.params[j]? = some t → args[j]? = some v → Value.okWide Tryz.prog W .any base t v := hval0
  have hW' := hW
  obtain ⟨p, q, hA0, hV, rfl, hfz, hnd⟩ := hW
  have hA : DataW.TrodAll enc Tryz.prog W 0 (fun _ => true) true Tryz.f3.params.toList args.toList ds p := hA0
  rw [Tryz.params3] at hA hval
  obtain ⟨v0, vs0, d0, ds0, p0, q0, hargs, rfl, rfl, h0, r0⟩ := trodAll_cons hA
  obtain ⟨v1, vs1, d1, ds1, p1, q1, rfl, rfl, rfl, h1, r1⟩ := trodAll_cons r0
  obtain ⟨v2, vs2, d2, ds2, p2, q2, rfl, rfl, rfl, h2, r2⟩ := trodAll_cons r1
  obtain ⟨v3, vs3, d3, ds3, p3, q3, rfl, rfl, rfl, h3, r3⟩ := trodAll_cons r2
  obtain ⟨v4, vs4, d4, ds4, p4, q4, rfl, rfl, rfl, h4, r4⟩ := trodAll_cons r3
  obtain ⟨rfl, rfl, rfl⟩ := trodAll_nil r4
  obtain rfl : args = #[v0, v1, v2, v3, v4] := by cases args; simp_all
  obtain ⟨rfl, rfl⟩ := trodVars_none hV
  obtain ⟨key0, c0, l0, rfl, hvs0, hl0⟩ := open_entry (hval 0 24 v0 rfl rfl) h0
  obtain ⟨a1, rfl⟩ := open_version (hval 1 26 v1 rfl rfl) h1
  obtain ⟨a2, rfl, rfl, rfl, w2⟩ := open_int Tryz.underlying2 (hval 2 2 v2 rfl rfl) h2
  obtain ⟨a3, rfl, rfl, rfl, w3⟩ := open_int Tryz.underlying3 (hval 3 3 v3 rfl rfl) h3
  obtain ⟨a4, rfl, rfl, rfl, w4⟩ := Go.ChangeMaps.open_string Tryz.underlying9 (hval 4 9 v4 rfl rfl) h4
  clear hA0 hval0
  simp only [List.append_nil] at hW'
  have hlt0 : ∀ z ∈ p0, z.block < W.heap.size := fun z hz => hW'.lt z (by simp [hz])
  have hlt1 : ∀ z ∈ p1, z.block < W.heap.size := fun z hz => hW'.lt z (by simp [hz])
  refine (tomeAll_walk key0 c0 l0 a1 a2 a3 a4 W begun5_true (lib_of_laid hL) hvs0 hl0).mono fun e W' ⟨he, hb⟩ => ?_
  subst he
  refine ⟨_, rfl, _, _, _, [], p0 ++ (p1 ++ ([] ++ ([] ++ ([] ++ [])))), [], hW', ?_, ?_, ?_, hb.frame _, fun h => by cases h⟩
  · exact (trodAll_cons_mk (shut_bool Tryz.underlying4 _) trodAll_mk0)
  · exact (trodAll_cons_mk (Below.trod (show laidOutB Tryz.prog = true by kernel_rfl) (by kernel_rfl) (of_decide_eq_true (by kernel_rfl)) h0 hb hlt0) (trodAll_cons_mk (Below.trod (show laidOutB Tryz.prog = true by kernel_rfl) (by kernel_rfl) (of_decide_eq_true (by kernel_rfl)) h1 hb hlt1) (trodAll_cons_mk (shut_int Tryz.underlying2 w2) (trodAll_cons_mk (shut_int Tryz.underlying3 w3) (trodAll_cons_mk (Go.ChangeMaps.shut_string Tryz.underlying9 w4) trodAll_mk0)))))
  · first | rfl | simp

theorem over : Rows.TomeAllSaid :=
  OpenClaim.holds_of_wide 3 Tryz.f3 rfl rfl rfl rfl rfl rfl rfl ⟨rfl, rfl, rfl, rfl, rfl⟩ rfl rfl rfl rfl rfl (by kernel_rfl) Tryz.func3 (by kernel_rfl)
    (of_decide_eq_true (by kernel_rfl)) (by unfold Func.isWrapper; first | (rw [if_pos (by decide +kernel)]; kernel_rfl) | (rw [if_neg (by decide +kernel)]; exact ⟨rfl, rfl⟩))
    (fun os started H enc _ => lifted os started H enc)

theorem proved : Rows.TomeAllCardSaid :=
  Claim7.holds_tied_plain_at .later [] _ true _ _
    over (fun _ h => by cases h) (by kernel_rfl) (fun _ h => by cases h) tomeAll_row_tie rfl ⟨rfl, rfl⟩ (by kernel_rfl) rfl
    (fun f fn hf hfn => by
      obtain rfl : f = 3 := Option.some.inj ((show Tryz.prog.funcNamed _ = some 3 by kernel_rfl).symm.trans hf) |>.symm
      obtain rfl : fn = Tryz.f3 := (Option.some.inj (Tryz.func3.symm.trans hfn)).symm
      exact ⟨by kernel_rfl, fun j t ht => by
        rw [Tryz.params3] at ht
        have hm : t ∈ [24, 26, 2, 3, 9] := by simpa using Array.mem_of_getElem? ht
        have hall : ([24, 26, 2, 3, 9].all fun u => !Tryz.prog.wantsStandIn u) = true := by kernel_rfl
        exact (show Tryz.prog.wantsStandIn t = false by simpa using List.all_eq_true.1 hall t hm)⟩)
    (by kernel_rfl)

end Go.Proofs.YtlajbminbdhpaaaGreatDoor.tomeAll
