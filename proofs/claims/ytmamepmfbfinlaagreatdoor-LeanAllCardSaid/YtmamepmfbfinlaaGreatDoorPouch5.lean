/-
  The contracts of pouch's items and get.
-/
import Derived.Test.YtmamepmfbfinlaaGreatDoorPouch4
import Derived.Maps.AppendAt
namespace Go.Proofs.YtmamepmfbfinlaaGreatDoor
open Go.RowKit

theorem infoVal : (Tryz.prog.info? 61).map (fun i => (i.zero, i.size, i.bytes)) = some (some (.agg #[.int .i64 0, .int .i64 0, .string ⟨#[]⟩, .slice none 0 0]), 4, 56) := by kernel_rfl

theorem step_arm {g : ByteArray → Int → Except Nat G} {m : Int} {f : Nat} {T : ByteArray} {n : Nat} (h : ¬ T.size = 0) : itemsP g m (f + 1) T n = (match g T (m - n) with
      | .error _ => none
      | .ok x => match itemsP g m f (T.extract x.b T.size) (n + x.c) with
        | none => none
        | some (r, z) => some (.cons x.k x.n x.s x.l r, z)) := by
  rw [itemsP, if_neg h]
  rfl

/-- One operation of a region that draws: an append onto a slice of the call's own. -/
theorem op_append_at {P : Program} {K : Act → World → Prop} {Q : Exit → Act → World → Prop} {o : Oper} {a : Act} {w : World} (sl y : Operand) (t : TypeId)
    (ho : o.op = .call { callee := .builtin .append, args := #[sl, y], argTypes := #[t, t] })
    (base : Nat) (e : TypeId) (i : TypeInfo) (z : Value) (size bytes : Nat) (ht : P.underlying t = some (.slice e)) (hi : P.info? e = some i) (hz : i.zero = some z)
    (hsize : i.size = size) (hby : i.bytes = bytes) (hzs : z.cells.size = size) (hsz : 0 < size)
    (v : Value) (n : Nat) (xs : List Value) (hs : a.eval sl = v) (hown : w.ownsRow base e size v n xs)
    (ad : Addr) (m c : Nat) (news : List Value) (hx : a.eval y = .slice (some ad) m c) (hl : news.length = m * size) (hnews : ∀ j u, news[j]? = some u → w.cell? (ad.add j) = some u) (h1 : ∀ u ∈ news, u.oneCell' = true)
    (h63 : n + m ≤ maxLen) (hbytes : (n + m) * bytes ≤ 140737488355328) (hbase : base ≤ w.heap.size)
    (h : ∀ v' w', w'.ownsRow base e size v' (n + m) (xs ++ news) → w.grownBy w' v.ownBlock → (v'.ownBlock = v.ownBlock ∨ v'.ownBlock = some w.heap.size) → K (a.put o.dst v') w') :
    Oper.wp P o a w K Q := by
  obtain ⟨v', w', hr, h2, h3, _, h5⟩ := run_append_own_at (P := P) w base t o.type e i z size bytes ht hi hz hsize hby hzs hsz v n xs hown ad m c news hl hnews h1 h63 hbytes hbase
  unfold Oper.wp execOp
  simp only [ho, resolve, invoke, builtin, Sem.run_bind, Sem.run_pure, Result.andThen_ok, List.map_toArray, List.map_cons, List.map_nil, hs, hx, hr]
  exact h v' w' h2 h3 h5

def strSize (v : Value) : Nat := match v with | .string T => T.size | _ => 0

theorem owns_old {w : World} {base : Nat} {e : TypeId} {z : Nat} {v : Value} {n : Nat} {xs : List Value} (h : w.ownsRow base e z v n xs) : ∀ j, v.ownBlock = some j → j < w.heap.size := by
  intro j hj
  rcases h.2 with ⟨rfl, _⟩ | ⟨g, cap, cur, rfl, _, hh, _⟩
  · cases hj
  · cases hj
    rcases Nat.lt_or_ge g w.heap.size with h1 | h1
    · exact h1
    · rw [Array.getElem?_eq_none h1] at hh
      cases hh

theorem owns_shape4 {w : World} {base : Nat} {e : TypeId} {z : Nat} {v : Value} {n : Nat} {xs : List Value} (h : w.ownsRow base e z v n xs) : ∃ ad cap, v = .slice ad n cap := by
  rcases h.2 with ⟨rfl, rfl⟩ | ⟨g, cap, cur, rfl, _⟩
  · exact ⟨_, _, rfl⟩
  · exact ⟨_, _, rfl⟩

theorem owns_cap {w : World} {base : Nat} {e : TypeId} {z : Nat} {a : Option Addr} {c : Nat} {n : Nat} {xs : List Value} (h : w.ownsRow base e z (.slice a n c) n xs) : n ≤ c := by
  rcases h.2 with ⟨hv, h0⟩ | ⟨g, cap, cur, hv, hg, hcur, h1, _⟩
  · omega
  · injection hv with _ _ h3
    omega

/-- The cells of a part that was read. -/
def PartS (q : Nat) (x : G) (ad : Option Addr) (cap : Nat) (w : World) : Prop :=
  w.cell? ⟨q, 0, none⟩ = some (.int .i64 x.k) ∧ w.cell? ⟨q, 1, none⟩ = some (.int .i64 x.n) ∧ w.cell? ⟨q, 2, none⟩ = some (.string x.s) ∧ w.cell? ⟨q, 3, none⟩ = some (.slice ad x.l.len cap) ∧
    w.cell? ⟨q, 4, none⟩ = some (.int .i64 (x.b : Int)) ∧ w.cell? ⟨q, 5, none⟩ = some (.int .i64 (x.c : Int))

theorem PartS.kept {q : Nat} {x : G} {ad : Option Addr} {cap : Nat} {w w' : World} (h : PartS q x ad cap w) (hk : w'.heap[q]? = w.heap[q]?) : PartS q x ad cap w' := by
  obtain ⟨h0, h1, h2, h3, h4, h5⟩ := h
  exact ⟨by rw [cell_congr hk]; exact h0, by rw [cell_congr hk]; exact h1, by rw [cell_congr hk]; exact h2, by rw [cell_congr hk]; exact h3, by rw [cell_congr hk]; exact h4, by rw [cell_congr hk]; exact h5⟩

theorem cutP_err (t : ByteArray) (h : (cutP t).2.2 ≠ 0) : (cutP t).2.2 = 1 ∨ (cutP t).2.2 = 2 := by
  have he := lenP_err t.data.toList 0 0
  unfold cutP at h ⊢
  generalize lenP 0 0 t.data.toList = r at *
  obtain ⟨n, k, e⟩ := r
  simp only at *
  by_cases h0 : e = 0
  · rw [if_pos h0] at h ⊢
    by_cases h5 : t.size - k ≤ n
    · rw [if_pos h5]; exact .inr rfl
    · rw [if_neg h5] at h; exact absurd rfl h
  · rw [if_neg h0]
    exact (he h0).2

theorem getP_err : ∀ (d : Nat) (t : ByteArray) (m : Int) (e : Nat), getP d t m = .error e → e = 1 ∨ e = 2
  | 0, t, m, e, h => by
    unfold getP at h
    split at h
    · cases h; exact .inl rfl
    · rename_i h0; cases h; exact cutP_err t h0
  | d + 1, t, m, e, h => by
    unfold getP at h
    split at h
    · split at h
      · cases h; exact .inl rfl
      · simp only at h
        split at h
        · split at h
          · cases h
          · cases h; exact .inl rfl
        · split at h
          · cases h
          · split at h
            · split at h
              · cases h
              · cases h; exact .inl rfl
            · cases h; exact .inl rfl
    · rename_i h0; cases h; exact cutP_err t h0

theorem F.app_nil : ∀ f : F, f.app .nil = f
  | .nil => rfl
  | .cons k n s l r => by simp only [F.app, F.app_nil r]

/-- An owned row that holds a list of values: the list lies there. -/
theorem owns_repG {w : World} {B : Nat} {A A' : Nat → Prop} {la : Option Addr} {lc : Nat} {L : F} {xs : List Value} {e : TypeId} (h : w.ownsRow B e 4 (.slice la L.len lc) L.len xs) (hX : RepX w A xs L) (hA : ∀ b, A b → A' b) (hB : ∀ b, B ≤ b → A' b) : RepG w A' la L := by
  have hc := fun {g : Nat} (hv : (Value.slice la L.len lc).ownBlock = some g) => h.cells (g := g) hv
  rcases h.2 with ⟨hv, h0⟩ | ⟨g, cap, cur, hv, hg, hcur, _⟩
  · cases L with
    | nil => exact .inl rfl
    | cons => simp [F.len] at h0
  · have hla : la = some ⟨g, 0, none⟩ := by injection hv
    subst hla
    exact .inr ⟨g, 0, rfl, RepX.repA hA ⟨hB g hg, cur, e, hcur⟩ L xs 0 hX (fun j u hj => by
      have := hc rfl j u hj
      rw [show (⟨g, 0, none⟩ : Addr).add j = ⟨g, 0 + j, none⟩ by unfold Addr.add; split <;> simp_all] at this
      exact this)⟩

/-- What items' loop keeps. -/
def ItRel (w : World) (g : ByteArray → Int → Except Nat G) (m : Int) (R : Option (F × Nat)) (tv lv nv : Value) (wr : World) : Prop :=
  ∃ (T : ByteArray) (n f : Nat) (L : F) (xs : List Value), tv = .string T ∧ nv = .int .i64 n ∧ (n : Int) ≤ m ∧ T.size ≤ 9999999 ∧ T.size + 1 ≤ f ∧ (∃ a c, lv = .slice a L.len c) ∧ L.len ≤ n ∧
    wr.ownsRow w.heap.size 61 4 lv L.len xs ∧ RepX wr (fun b => w.heap.size ≤ b ∧ lv.ownBlock ≠ some b) xs L ∧
    Hid (R = (itemsP g m f T n).map fun q => (L.app q.1, q.2)) ∧ Below w.heap.size w wr

set_option maxRecDepth 100000 in
set_option maxHeartbeats 4000000 in
theorem items_q (d : Nat) (hQ : GetQ d) (t : ByteArray) (m : Int) (w : World) (hs : t.size ≤ 9999999) (hm0 : 0 ≤ m) (hm1 : m ≤ 1000000) (_hd : d ≤ 1000000) (hlib : LibAt w) :
    Calls Tryz.prog 77 #[.string t, .int .i64 d, .int .i64 m] w (ItemsPost (itemsP (getP d) m (t.size + 1) t 0) w) := by
  obtain ⟨R, hR⟩ : ∃ R, itemsP (getP d) m (t.size + 1) t 0 = R := ⟨_, rfl⟩
  rw [hR]
  have HR := Lib.hid hR
  have HQ := Lib.hid hQ
  have HLIB := Lib.hid hlib
  clear hR hQ hlib
  obtain ⟨i0, hi, hz0, hz1, hz2⟩ := info_parts infoVal
  go_enter Tryz.func77, Tryz.ntmps77
  go_wp2_with fail
  go_loopw [0, 9, 10] (fun tv lv nv wr => ItRel w (getP d) m R tv lv nv wr) (fun tv _ _ _ => strSize tv)
  case atStart =>
    refine ⟨t, 0, t.size + 1, .nil, [], rfl, rfl, by omega, hs, Nat.le_refl _, ⟨_, _, rfl⟩, Nat.le_refl _, ⟨rfl, .inr ⟨w.heap.size, 0, #[], rfl, Nat.le_refl _, ?_, Nat.le_refl 0, by unfold maxLen; omega, rfl, rfl⟩⟩, rfl, Lib.hid ?_, (Below.refl _ _).alloc (Nat.le_refl _) _⟩
    · have h := heap_alloc_new w (.cells #[] 61)
      simpa using h
    · rw [HR.out]
      cases R with
      | none => rfl
      | some q => rfl
  case round =>
    obtain ⟨T, n, f, L, xs, rfl, rfl, hnm, hT, hf, ⟨la, lc, rfl⟩, hLn, hown, hX, hH, hB⟩ := hrel
    by_cases hT0 : T.size = 0
    · obtain rfl := empty_of_size hT0
      obtain ⟨f, rfl⟩ : ∃ f', f = f' + 1 := ⟨f - 1, by omega⟩
      have hH' := hH.out
      rw [itemsP, if_pos hT0] at hH'
      simp only [Option.map_some, F.app_nil] at hH'
      subst hH'
      have HG := Lib.hid (owns_repG (A' := fun b => w.heap.size ≤ b) hown hX (fun _ h => h.1) (fun _ h => h))
      have HB := Lib.hid hB
      have HLC := Lib.hid (owns_cap hown)
      clear hX hown hH hT0 hB
      go_wp2_with fail
      exact bodyPost_ret (v := .tuple #[.slice la L.len lc, .int .i64 (n : Int), .bool true]) (by simp [results, Tryz.results77, go_sem]) rfl ⟨HB.out, la, lc - L.len, by rw [Nat.add_sub_cancel' HLC.out], HG.out⟩
    · have hT1 := isEmpty_ne hT0
      obtain ⟨f, rfl⟩ : ∃ f', f = f' + 1 := ⟨f - 1, by omega⟩
      have hH' := hH.out
      rw [step_arm hT0] at hH'
      have CG := Lib.hid (HQ.out T (m - n) wr (by omega) (by omega) (by omega) (HLIB.out.below hB))
      cases hx : getP d T (m - n) with
      | error e =>
        rw [hx] at hH'
        simp only [Option.map_none] at hH'
        subst hH'
        unfold GetPost at CG
        rw [hx] at CG
        have he : ((e : Int) != 0) = true := by
          rw [bne_iff_ne]
          have := getP_err d T _ e hx
          omega
        have HB := Lib.hid hB
        clear hX hown hH hB hx
        go_wp2_with fail
        refine CG.out.mono ?_
        rintro _ w2 ⟨hb2, rfl⟩
        have HB2 := Lib.hid hb2
        clear hb2
        go_wp2_with fail
        exact bodyPost_ret (v := .tuple #[.slice none 0 0, .int .i64 0, .bool false]) (by simp [results, Tryz.results77, go_sem]) rfl ⟨(HB.out.trans (HB2.out.mono HB.out.size)).alloc (by have := HB.out.size; have := HB2.out.size; omega) _, rfl⟩
      | ok x =>
        rw [hx] at hH'
        simp only at hH'
        unfold GetPost at CG
        rw [hx] at CG
        obtain ⟨⟨b1, b2, _, _⟩, b5, b6⟩ := getP_bd d T _ x hx (by omega)
        have b7 := cutP_bd T b6
        rw [← b5] at b7
        have HX := Lib.hid (And.intro hX (And.intro hown hH'))
        have HB := Lib.hid hB
        clear hX hown hH' hH hB b5 b6
        go_wp2_with fail
        refine CG.out.mono ?_
        rintro _ w2 ⟨hb2, ad, cap0, rfl, hg⟩
        generalize x.l.len + cap0 = cap
        have HG := Lib.hid (And.intro hb2 hg)
        clear hb2 hg
        go_wp2_with fail
        have hw1 : IntKind.i64.wrap ((n : Int) + (x.c : Int)) = (n : Int) + (x.c : Int) := IntWalk.i64_in _ (by omega)
        have HBW : Hid (Below wr.heap.size wr (((w2.alloc (.cells #[.int .i64 x.k, .int .i64 x.n, .string x.s, .slice ad x.l.len cap, .int .i64 (x.b : Int), .int .i64 (x.c : Int)] 78)).alloc (.cells #[.int .i64 x.k, .int .i64 x.n, .string x.s, .slice ad x.l.len cap] 61)).drew)) := Lib.hid (((HG.out.1.alloc HG.out.1.size _).alloc (by simp; have := HG.out.1.size; omega) _).drew)
        have hq : w.heap.size ≤ w2.heap.size := Nat.le_trans HB.out.size HG.out.1.size
        have hS : PartS w2.heap.size x ad cap (World.drew (w2.alloc (.cells #[.int .i64 x.k, .int .i64 x.n, .string x.s, .slice ad x.l.len cap, .int .i64 (x.b : Int), .int .i64 (x.c : Int)] 78))) := by
          refine ⟨?_, ?_, ?_, ?_, ?_, ?_⟩ <;> go_simp
        refine wp_region_held (S := PartS w2.heap.size x ad cap) (by kernel_rfl) ?_
        change wpAnyH _ _ _ _ _ _ _ _ (World.drew _)
        refine wpAnyH_take (i := 0) (v := Value.slice la L.len lc) rfl (by kernel_rfl) (by kernel_rfl) (by kernel_rfl) (fun _ _ _ h => h) (Or.inl ⟨by rfl, ?_⟩) hS ?_
        · intro w' ⟨s0, s1, s2, s3, s4, s5⟩; go_simp
        refine wpAnyH_take (i := 1) (v := Value.pointer (some ⟨w2.heap.size, 0, none⟩)) rfl (by kernel_rfl) (by kernel_rfl) (by kernel_rfl) (fun _ _ _ h => h) (Or.inl ⟨by rfl, ?_⟩) hS ?_
        · intro w' ⟨s0, s1, s2, s3, s4, s5⟩; go_simp
        refine wpAnyH_take (i := 2) (v := Value.agg #[.int .i64 x.k, .int .i64 x.n, .string x.s, .slice ad x.l.len cap]) rfl (by kernel_rfl) (by kernel_rfl) (by kernel_rfl) (fun _ _ _ h => h) (Or.inl ⟨by rfl, ?_⟩) hS ?_
        · intro w' ⟨s0, s1, s2, s3, s4, s5⟩; go_simp
        refine wpAnyH_take (i := 5) (v := Value.int .i64 (n : Int)) rfl (by kernel_rfl) (by kernel_rfl) (by kernel_rfl) (fun _ _ _ h => h) (Or.inl ⟨by rfl, ?_⟩) hS ?_
        · intro w' ⟨s0, s1, s2, s3, s4, s5⟩; go_simp
        refine wpAnyH_take (i := 6) (v := Value.pointer (some ⟨w2.heap.size, 5, none⟩)) rfl (by kernel_rfl) (by kernel_rfl) (by kernel_rfl) (fun _ _ _ h => h) (Or.inl ⟨by rfl, ?_⟩) hS ?_
        · intro w' ⟨s0, s1, s2, s3, s4, s5⟩; go_simp
        refine wpAnyH_take (i := 7) (v := Value.int .i64 (x.c : Int)) rfl (by kernel_rfl) (by kernel_rfl) (by kernel_rfl) (fun _ _ _ h => h) (Or.inl ⟨by rfl, ?_⟩) hS ?_
        · intro w' ⟨s0, s1, s2, s3, s4, s5⟩; go_simp
        refine wpAnyH_take (i := 8) (v := Value.int .i64 ((n : Int) + (x.c : Int))) rfl (by kernel_rfl) (by kernel_rfl) (by kernel_rfl) (fun _ _ _ h => h) (Or.inl ⟨by rfl, ?_⟩) hS ?_
        · intro w' ⟨s0, s1, s2, s3, s4, s5⟩; go_simp
        refine wpAnyH_take (i := 9) (v := Value.string T) rfl (by kernel_rfl) (by kernel_rfl) (by kernel_rfl) (fun _ _ _ h => h) (Or.inl ⟨by rfl, ?_⟩) hS ?_
        · intro w' ⟨s0, s1, s2, s3, s4, s5⟩; go_simp
        refine wpAnyH_take (i := 10) (v := Value.pointer (some ⟨w2.heap.size, 4, none⟩)) rfl (by kernel_rfl) (by kernel_rfl) (by kernel_rfl) (fun _ _ _ h => h) (Or.inl ⟨by rfl, ?_⟩) hS ?_
        · intro w' ⟨s0, s1, s2, s3, s4, s5⟩; go_simp
        refine wpAnyH_take (i := 11) (v := Value.int .i64 (x.b : Int)) rfl (by kernel_rfl) (by kernel_rfl) (by kernel_rfl) (fun _ _ _ h => h) (Or.inl ⟨by rfl, ?_⟩) hS ?_
        · intro w' ⟨s0, s1, s2, s3, s4, s5⟩; go_simp
        refine wpAnyH_take (i := 12) (v := Value.string (T.extract x.b T.size)) rfl (by kernel_rfl) (by kernel_rfl) (by kernel_rfl) (fun _ _ _ h => h) (Or.inl ⟨by rfl, ?_⟩) hS ?_
        · intro w' ⟨s0, s1, s2, s3, s4, s5⟩; go_simp
        refine wpAnyH_ready (rs := [3]) (by kernel_rfl) (by simp) ?_
        refine AllReadyH.cons rfl (fun K hK => ?_) AllReadyH.nil
        go_simp
        refine hK.out _ _ ?_ (fun hS1 => ?_)
        · refine ⟨?_, ?_, ?_, ?_, ?_, ?_⟩ <;> go_simp
        clear hK hS
        refine wpAnyH_ready (rs := [4]) (by kernel_rfl) (by simp) ?_
        refine AllReadyH.cons rfl (fun K2 hK2 => ?_) AllReadyH.nil
        rw [if_pos (by rfl)]
        refine op_append_at (.tmp 27) (.tmp 30) 59 rfl w.heap.size 61 i0 _ 4 56 Tryz.underlying59 hi hz0 hz1 hz2 rfl (by decide) (.slice la L.len lc) L.len xs rfl ?_ ⟨w2.heap.size + 1, 0, none⟩ 1 1 [.int .i64 x.k, .int .i64 x.n, .string x.s, .slice ad x.l.len cap] rfl rfl ?_ ?_ ?_ ?_ ?_ ?_
        · exact owns_below HX.out.2.1 HBW.out
        · intro j u hj
          rcases j with _ | _ | _ | _ | j
          · cases hj; go_simp
          · cases hj; go_simp
          · cases hj; go_simp
          · cases hj; go_simp
          · simp at hj
        · intro u hu
          simp at hu
          rcases hu with rfl | rfl | rfl | rfl <;> rfl
        · unfold maxLen; omega
        · omega
        · exact Nat.le_trans HB.out.size HBW.out.size
        intro v' w3 hown3 hgrow3 hloc3
        obtain ⟨va, vc, rfl⟩ := owns_shape4 hown3
        go_simp
        refine hK2.out _ _ ?_ (fun hS2 => ?_)
        · refine hS1.kept (hgrow3.block _ (by simp; omega) ?_)
          intro e
          have h9 := owns_old HX.out.2.1 _ (by first | exact e | exact e.symm)
          have := HG.out.1.size
          omega
        clear hK2 hS1
        refine wpAnyH_ready (rs := [13]) (by kernel_rfl) (by simp) ?_
        refine AllReadyH.cons rfl (fun K3 hK3 => ?_) AllReadyH.nil
        go_simp
        refine hK3.out _ _ hS2 (fun _ => ?_)
        clear hK3
        refine wpAnyH_ready (rs := [14]) (by kernel_rfl) (by simp) ?_
        refine AllReadyH.cons rfl (fun K3 hK3 => ?_) AllReadyH.nil
        go_simp
        refine hK3.out _ _ hS2 (fun _ => ?_)
        clear hK3
        refine wpAnyH_ready (rs := [15]) (by kernel_rfl) (by simp) ?_
        refine AllReadyH.cons rfl (fun K3 hK3 => ?_) AllReadyH.nil
        go_simp
        refine hK3.out _ _ hS2 (fun _ => ?_)
        clear hK3
        refine wpAnyH_done (by kernel_rfl) ?_ _
        go_wp2_with fail
        go_roundw
        case rel =>
          have e1 : (L.app (.cons x.k x.n x.s x.l .nil)).len = L.len + 1 := by rw [F.app_len]; rfl
          have h1 := HB.out.size
          have h2 := HG.out.1.size
          have hW : w2.heap.size ≤ (((w2.alloc (.cells #[.int .i64 x.k, .int .i64 x.n, .string x.s, .slice ad x.l.len cap, .int .i64 (x.b : Int), .int .i64 (x.c : Int)] 78)).alloc (.cells #[.int .i64 x.k, .int .i64 x.n, .string x.s, .slice ad x.l.len cap] 61)).drew).heap.size := by simp; omega
          have hold := owns_old HX.out.2.1
          have hb2 : Below w2.heap.size w2 (((w2.alloc (.cells #[.int .i64 x.k, .int .i64 x.n, .string x.s, .slice ad x.l.len cap, .int .i64 (x.b : Int), .int .i64 (x.c : Int)] 78)).alloc (.cells #[.int .i64 x.k, .int .i64 x.n, .string x.s, .slice ad x.l.len cap] 61)).drew) := (((Below.refl _ _).alloc (Nat.le_refl _) _).alloc (by simp) _).drew
          have hne : ∀ b, w.heap.size ≤ b → b < w2.heap.size → (Value.slice la L.len lc).ownBlock ≠ some b → (Value.slice va (L.len + 1) vc).ownBlock ≠ some b ∧ w3.heap[b]? = w2.heap[b]? := by
            intro b hb hlt hn
            refine ⟨?_, ?_⟩
            · rcases hloc3 with h | h
              · rw [h]; exact hn
              · rw [h]
                intro e
                have := Option.some.inj e
                omega
            · rw [hgrow3.block b (by omega) (fun e => hn (by first | exact e | exact e.symm)), hb2.block b hlt]
          refine ⟨T.extract x.b T.size, n + x.c, f, L.app (.cons x.k x.n x.s x.l .nil), xs ++ [.int .i64 x.k, .int .i64 x.n, .string x.s, .slice ad x.l.len cap], rfl, by go_num, by omega, ?_, ?_, ⟨va, vc, by rw [e1]⟩, by omega, by rw [e1]; exact hown3, ?_, Lib.hid ?_, ?_⟩
          · simp only [ByteArray.size_extract]; omega
          · simp only [ByteArray.size_extract]; omega
          · refine RepX.snoc (HG.out.2.to fun b hb hlt => ?_) L xs (RepX.to (fun b hb hlt => ?_) L xs HX.out.1)
            · have := hne b (by omega) hlt (fun e => by have := hold b e; omega)
              exact ⟨⟨by omega, this.1⟩, this.2⟩
            · have := hne b hb.1 (by omega) hb.2
              exact ⟨⟨hb.1, this.1⟩, by rw [this.2, HG.out.1.block b hlt]⟩
          · rw [HX.out.2.2]
            cases itemsP (getP d) m f (T.extract x.b T.size) (n + x.c) with
            | none => rfl
            | some q =>
              obtain ⟨r, z⟩ := q
              simp only [Option.map_some, F.app_assoc]
              rfl
          · exact (HB.out.trans (HBW.out.mono HB.out.size)).grown hgrow3 (Nat.le_trans HB.out.size HBW.out.size) (owns_base HX.out.2.1)
        case measure =>
          show (T.extract x.b T.size).size < T.size
          simp only [ByteArray.size_extract]
          omega

/-- The end's byte, in the walk's spelling. -/
theorem last_one (t : ByteArray) (k : Nat) (h1 : 1 ≤ k) (h2 : k ≤ t.size) : ∃ c, (t.extract (k - 1) k).data.toList = [c] := by
  have h : (t.extract (k - 1) k).data.toList.length = 1 := by
    show (t.extract (k - 1) k).size = 1
    rw [ByteArray.size_extract]
    omega
  cases hl : (t.extract (k - 1) k).data.toList with
  | nil => rw [hl] at h; cases h
  | cons c l =>
    rw [hl] at h
    cases l with
    | nil => exact ⟨c, rfl⟩
    | cons => simp at h

/-- An error. -/
def errV (e : Nat) : Value := .tuple #[.agg #[.int .i64 0, .int .i64 0, .string ⟨#[]⟩, .slice none 0 0, .int .i64 0, .int .i64 0], .int .i64 e]

set_option maxRecDepth 100000 in
set_option maxHeartbeats 4000000 in
/-- What cannot be cut. -/
theorem get_cut (d : Int) (t : ByteArray) (m : Int) (w : World) (hs : t.size ≤ 9223372036854775807) (h0 : ¬ (cutP t).2.2 = 0) :
    Calls Tryz.prog 57 #[.string t, .int .i64 d, .int .i64 m] w (GetPost (.error (cutP t).2.2) w) := by
  have C := Lib.hid (cut_p t hs)
  have he := cutP_err t h0
  generalize cutP t = r at *
  obtain ⟨x, k, e⟩ := r
  simp only at *
  have h0' : ((e : Int) != 0) = true := by rw [bne_iff_ne]; omega
  clear h0 he
  go_enter Tryz.func57, Tryz.ntmps57
  go_wp2_with fail
  refine (C.out _).mono ?_
  rintro _ w1 ⟨rfl, rfl⟩
  go_wp2_with fail
  exact bodyPost_ret (v := errV e) (by simp [results, Tryz.results57, go_sem, errV]) rfl ⟨(Below.refl _ _).alloc (Nat.le_refl _) _, rfl⟩

set_option maxRecDepth 100000 in
set_option maxHeartbeats 4000000 in
/-- Too deep, or too many. -/
theorem get_deep (d : Int) (t : ByteArray) (m : Int) (w : World) (hs : t.size ≤ 9223372036854775807) (h0 : (cutP t).2.2 = 0) (hd : d = 0 ∨ m = 0) :
    Calls Tryz.prog 57 #[.string t, .int .i64 d, .int .i64 m] w (GetPost (.error 1) w) := by
  have C := Lib.hid (cut_p t hs)
  generalize cutP t = r at *
  obtain ⟨x, k, e⟩ := r
  simp only at *
  subst h0
  by_cases hd0 : d = 0
  · subst hd0
    clear hd
    go_enter Tryz.func57, Tryz.ntmps57
    go_wp2_with fail
    refine (C.out _).mono ?_
    rintro _ w1 ⟨rfl, rfl⟩
    go_wp2_with fail
    exact bodyPost_ret (v := errV 1) (by simp [results, Tryz.results57, go_sem, errV]) rfl ⟨(Below.refl _ _).alloc (Nat.le_refl _) _, rfl⟩
  · obtain rfl : m = 0 := hd.resolve_left hd0
    have b0 : (d == 0) = false := by rw [beq_eq_false_iff_ne]; exact hd0
    clear hd hd0
    go_enter Tryz.func57, Tryz.ntmps57
    go_wp2_with fail
    refine (C.out _).mono ?_
    rintro _ w1 ⟨rfl, rfl⟩
    go_wp2_with fail
    exact bodyPost_ret (v := errV 1) (by simp [results, Tryz.results57, go_sem, errV]) rfl ⟨(Below.refl _ _).alloc (Nat.le_refl _) _, rfl⟩

set_option maxRecDepth 100000 in
set_option maxHeartbeats 4000000 in
/-- A number. -/
theorem get_num (d : Int) (t : ByteArray) (m : Int) (w : World) (hs : t.size ≤ 9223372036854775807) (hlib : LibAt w) (h0 : (cutP t).2.2 = 0) (hd : d ≠ 0) (hm : m ≠ 0) (hc : (t.extract ((cutP t).2.1 - 1) (cutP t).2.1).data.toList = [35]) :
    Calls Tryz.prog 57 #[.string t, .int .i64 d, .int .i64 m] w (GetPost (match numP (cutP t).1 with | some v => .ok ⟨1, v, ⟨#[]⟩, .nil, (cutP t).2.1, 1⟩ | none => .error 1) w) := by
  have C := Lib.hid (cut_p t hs)
  have hbd := cutP_bd t h0
  rw [← ByteArray.toList_eq] at hc
  have N := Lib.hid (fun w1 (h : Below w.heap.size w w1) => number_p (cutP t).1 hbd.2.2.1 w1 (hlib.below h))
  generalize cutP t = r at *
  obtain ⟨x, k, e⟩ := r
  simp only at *
  subst h0
  obtain ⟨k1, k2, k3, _⟩ := hbd
  have b0 : (d == 0) = false := by rw [beq_eq_false_iff_ne]; exact hd
  have bm : (m == 0) = false := by rw [beq_eq_false_iff_ne]; exact hm
  have k1' : (1 : Int) ≤ k := by omega
  have k2' : (k : Int) ≤ t.size := by omega
  have k4 : ((k : Int) - 1).toNat = k - 1 := by omega
  have HB0 : Hid (Below w.heap.size w (w.alloc (.cells #[.int .i64 0, .int .i64 0, .string ⟨#[]⟩, .slice none 0 0, .int .i64 0, .int .i64 0] 78))) := Lib.hid ((Below.refl _ _).alloc (Nat.le_refl _) _)
  unfold numV at N
  clear hd hm hlib
  cases hn : numP x with
  | none =>
    rw [hn] at N
    clear hn
    go_enter Tryz.func57, Tryz.ntmps57
    go_wp2_with fail
    refine (C.out _).mono ?_
    rintro _ w1 ⟨rfl, rfl⟩
    go_wp2_with fail
    refine (N.out _ HB0.out).mono ?_
    rintro _ w2 ⟨rfl, hb2⟩
    have c0 : w2.cell? ⟨w.heap.size, 0, none⟩ = some (.int .i64 0) := by rw [hb2.cell (by simp)]; go_simp
    have z0 : w2.frozen? ⟨w.heap.size, 0, none⟩ = false := by rw [hb2.frozen (by simp)]; go_simp
    have c1 : w2.cell? ⟨w.heap.size, 1, none⟩ = some (.int .i64 0) := by rw [hb2.cell (by simp)]; go_simp
    have z1 : w2.frozen? ⟨w.heap.size, 1, none⟩ = false := by rw [hb2.frozen (by simp)]; go_simp
    have c2 : w2.cell? ⟨w.heap.size, 2, none⟩ = some (.string ⟨#[]⟩) := by rw [hb2.cell (by simp)]; go_simp
    have z2 : w2.frozen? ⟨w.heap.size, 2, none⟩ = false := by rw [hb2.frozen (by simp)]; go_simp
    have c3 : w2.cell? ⟨w.heap.size, 3, none⟩ = some (.slice none 0 0) := by rw [hb2.cell (by simp)]; go_simp
    have z3 : w2.frozen? ⟨w.heap.size, 3, none⟩ = false := by rw [hb2.frozen (by simp)]; go_simp
    have c4 : w2.cell? ⟨w.heap.size, 4, none⟩ = some (.int .i64 0) := by rw [hb2.cell (by simp)]; go_simp
    have z4 : w2.frozen? ⟨w.heap.size, 4, none⟩ = false := by rw [hb2.frozen (by simp)]; go_simp
    have c5 : w2.cell? ⟨w.heap.size, 5, none⟩ = some (.int .i64 0) := by rw [hb2.cell (by simp)]; go_simp
    have z5 : w2.frozen? ⟨w.heap.size, 5, none⟩ = false := by rw [hb2.frozen (by simp)]; go_simp
    have HB2 := Lib.hid (HB0.out.trans (hb2.mono HB0.out.size))
    have hlt : w.heap.size ≤ w2.heap.size := HB2.out.size
    clear hb2
    go_wp2_with fail
    exact bodyPost_ret (v := errV 1) (by simp [results, Tryz.results57, go_sem, errV, c0, c1, c2, c3, c4, c5]) rfl ⟨((((((HB2.out.setCell (by simp) _).setCell (by simp) _).setCell (by simp) _).setCell (by simp) _).setCell (by simp) _).setCell (by simp) _), rfl⟩
  | some v =>
    rw [hn] at N
    clear hn
    go_enter Tryz.func57, Tryz.ntmps57
    go_wp2_with fail
    refine (C.out _).mono ?_
    rintro _ w1 ⟨rfl, rfl⟩
    go_wp2_with fail
    refine (N.out _ HB0.out).mono ?_
    rintro _ w2 ⟨rfl, hb2⟩
    have c0 : w2.cell? ⟨w.heap.size, 0, none⟩ = some (.int .i64 0) := by rw [hb2.cell (by simp)]; go_simp
    have z0 : w2.frozen? ⟨w.heap.size, 0, none⟩ = false := by rw [hb2.frozen (by simp)]; go_simp
    have c1 : w2.cell? ⟨w.heap.size, 1, none⟩ = some (.int .i64 0) := by rw [hb2.cell (by simp)]; go_simp
    have z1 : w2.frozen? ⟨w.heap.size, 1, none⟩ = false := by rw [hb2.frozen (by simp)]; go_simp
    have c2 : w2.cell? ⟨w.heap.size, 2, none⟩ = some (.string ⟨#[]⟩) := by rw [hb2.cell (by simp)]; go_simp
    have z2 : w2.frozen? ⟨w.heap.size, 2, none⟩ = false := by rw [hb2.frozen (by simp)]; go_simp
    have c3 : w2.cell? ⟨w.heap.size, 3, none⟩ = some (.slice none 0 0) := by rw [hb2.cell (by simp)]; go_simp
    have z3 : w2.frozen? ⟨w.heap.size, 3, none⟩ = false := by rw [hb2.frozen (by simp)]; go_simp
    have c4 : w2.cell? ⟨w.heap.size, 4, none⟩ = some (.int .i64 0) := by rw [hb2.cell (by simp)]; go_simp
    have z4 : w2.frozen? ⟨w.heap.size, 4, none⟩ = false := by rw [hb2.frozen (by simp)]; go_simp
    have c5 : w2.cell? ⟨w.heap.size, 5, none⟩ = some (.int .i64 0) := by rw [hb2.cell (by simp)]; go_simp
    have z5 : w2.frozen? ⟨w.heap.size, 5, none⟩ = false := by rw [hb2.frozen (by simp)]; go_simp
    have HB2 := Lib.hid (HB0.out.trans (hb2.mono HB0.out.size))
    clear hb2
    go_wp2_with fail
    exact bodyPost_ret (v := .tuple #[.agg #[.int .i64 1, .int .i64 v, .string ⟨#[]⟩, .slice none 0 0, .int .i64 k, .int .i64 1], .int .i64 0]) (by simp [results, Tryz.results57, go_sem, c0, c1, c2, c3, c4, c5]) rfl ⟨((((((HB2.out.setCell (by simp) _).setCell (by simp) _).setCell (by simp) _).setCell (by simp) _).setCell (by simp) _).setCell (by simp) _), none, 0, rfl, .inl rfl⟩

set_option maxRecDepth 100000 in
set_option maxHeartbeats 4000000 in
/-- A text. -/
theorem get_str (d : Int) (t : ByteArray) (m : Int) (w : World) (hs : t.size ≤ 9223372036854775807) (h0 : (cutP t).2.2 = 0) (hd : d ≠ 0) (hm : m ≠ 0) (hc : (t.extract ((cutP t).2.1 - 1) (cutP t).2.1).data.toList = [44]) :
    Calls Tryz.prog 57 #[.string t, .int .i64 d, .int .i64 m] w (GetPost (.ok ⟨2, 0, (cutP t).1, .nil, (cutP t).2.1, 1⟩) w) := by
  have C := Lib.hid (cut_p t hs)
  have hbd := cutP_bd t h0
  rw [← ByteArray.toList_eq] at hc
  have N := Lib.hid (clone_p (cutP t).1 hbd.2.2.1)
  generalize cutP t = r at *
  obtain ⟨x, k, e⟩ := r
  simp only at *
  subst h0
  obtain ⟨k1, k2, k3, _⟩ := hbd
  have b0 : (d == 0) = false := by rw [beq_eq_false_iff_ne]; exact hd
  have bm : (m == 0) = false := by rw [beq_eq_false_iff_ne]; exact hm
  have k1' : (1 : Int) ≤ k := by omega
  have k2' : (k : Int) ≤ t.size := by omega
  have k4 : ((k : Int) - 1).toNat = k - 1 := by omega
  have HB0 : Hid (Below w.heap.size w (w.alloc (.cells #[.int .i64 0, .int .i64 0, .string ⟨#[]⟩, .slice none 0 0, .int .i64 0, .int .i64 0] 78))) := Lib.hid ((Below.refl _ _).alloc (Nat.le_refl _) _)
  clear hd hm
  go_enter Tryz.func57, Tryz.ntmps57
  go_wp2_with fail
  refine (C.out _).mono ?_
  rintro _ w1 ⟨rfl, rfl⟩
  go_wp2_with fail
  refine (N.out _).mono ?_
  rintro _ w2 ⟨rfl, hb2⟩
  have c0 : w2.cell? ⟨w.heap.size, 0, none⟩ = some (.int .i64 0) := by rw [hb2.cell (by simp)]; go_simp
  have z0 : w2.frozen? ⟨w.heap.size, 0, none⟩ = false := by rw [hb2.frozen (by simp)]; go_simp
  have c1 : w2.cell? ⟨w.heap.size, 1, none⟩ = some (.int .i64 0) := by rw [hb2.cell (by simp)]; go_simp
  have z1 : w2.frozen? ⟨w.heap.size, 1, none⟩ = false := by rw [hb2.frozen (by simp)]; go_simp
  have c2 : w2.cell? ⟨w.heap.size, 2, none⟩ = some (.string ⟨#[]⟩) := by rw [hb2.cell (by simp)]; go_simp
  have z2 : w2.frozen? ⟨w.heap.size, 2, none⟩ = false := by rw [hb2.frozen (by simp)]; go_simp
  have c3 : w2.cell? ⟨w.heap.size, 3, none⟩ = some (.slice none 0 0) := by rw [hb2.cell (by simp)]; go_simp
  have z3 : w2.frozen? ⟨w.heap.size, 3, none⟩ = false := by rw [hb2.frozen (by simp)]; go_simp
  have c4 : w2.cell? ⟨w.heap.size, 4, none⟩ = some (.int .i64 0) := by rw [hb2.cell (by simp)]; go_simp
  have z4 : w2.frozen? ⟨w.heap.size, 4, none⟩ = false := by rw [hb2.frozen (by simp)]; go_simp
  have c5 : w2.cell? ⟨w.heap.size, 5, none⟩ = some (.int .i64 0) := by rw [hb2.cell (by simp)]; go_simp
  have z5 : w2.frozen? ⟨w.heap.size, 5, none⟩ = false := by rw [hb2.frozen (by simp)]; go_simp
  have HB2 := Lib.hid (HB0.out.trans (hb2.mono HB0.out.size))
  clear hb2
  go_wp2_with fail
  exact bodyPost_ret (v := .tuple #[.agg #[.int .i64 2, .int .i64 0, .string x, .slice none 0 0, .int .i64 k, .int .i64 1], .int .i64 0]) (by simp [results, Tryz.results57, go_sem, c0, c1, c2, c3, c4, c5]) rfl ⟨((((((HB2.out.setCell (by simp) _).setCell (by simp) _).setCell (by simp) _).setCell (by simp) _).setCell (by simp) _).setCell (by simp) _), none, 0, rfl, .inl rfl⟩

/-- What is known of items. -/
def ItemsQ (d : Nat) : Prop := ∀ (t : ByteArray) (m : Int) (w : World), t.size ≤ 9999999 → 0 ≤ m → m ≤ 1000000 → LibAt w →
  Calls Tryz.prog 77 #[.string t, .int .i64 d, .int .i64 m] w (ItemsPost (itemsP (getP d) m (t.size + 1) t 0) w)

set_option maxRecDepth 100000 in
set_option maxHeartbeats 4000000 in
/-- A list. -/
theorem get_lst (d : Int) (t : ByteArray) (m : Int) (w : World) (hs : t.size ≤ 9223372036854775807) (hlib : LibAt w) (h0 : (cutP t).2.2 = 0) (hd : d ≠ 0) (hm : m ≠ 0) (hm0 : 0 ≤ m) (hm1 : m ≤ 1000000) (hc : (t.extract ((cutP t).2.1 - 1) (cutP t).2.1).data.toList = [93]) (dn : Nat) (hdn : d = (dn : Int) + 1) (hdm : dn ≤ 1000000) (hI : ItemsQ dn) :
    Calls Tryz.prog 57 #[.string t, .int .i64 d, .int .i64 m] w (GetPost (match itemsP (getP dn) (m - 1) ((cutP t).1.size + 1) (cutP t).1 0 with | some (l, z) => .ok ⟨3, 0, ⟨#[]⟩, l, (cutP t).2.1, 1 + z⟩ | none => .error 1) w) := by
  have C := Lib.hid (cut_p t hs)
  have hbd := cutP_bd t h0
  rw [← ByteArray.toList_eq] at hc
  have N := Lib.hid (fun w1 (h : Below w.heap.size w w1) => hI (cutP t).1 (m - 1) w1 hbd.2.2.1 (by omega) (by omega) (hlib.below h))
  have hbz := itemsP_bd (getP dn) (fun t m x hx hm => (getP_bd dn t m x hx hm).1) (m - 1) ((cutP t).1.size + 1) (cutP t).1 0
  generalize cutP t = r at *
  obtain ⟨x, k, e⟩ := r
  simp only at *
  subst h0
  obtain ⟨k1, k2, k3, _⟩ := hbd
  have b0 : (d == 0) = false := by rw [beq_eq_false_iff_ne]; exact hd
  have bm : (m == 0) = false := by rw [beq_eq_false_iff_ne]; exact hm
  have k1' : (1 : Int) ≤ k := by omega
  have k2' : (k : Int) ≤ t.size := by omega
  have k4 : ((k : Int) - 1).toNat = k - 1 := by omega
  have HB0 : Hid (Below w.heap.size w (w.alloc (.cells #[.int .i64 0, .int .i64 0, .string ⟨#[]⟩, .slice none 0 0, .int .i64 0, .int .i64 0] 78))) := Lib.hid ((Below.refl _ _).alloc (Nat.le_refl _) _)
  have e1 : (dn : Int) = d - 1 := by omega
  rw [e1] at N
  have hdl : d ≤ 1000001 := by omega
  have hdg : 1 ≤ d := by omega
  clear hd hlib hdn e1
  generalize itemsP (getP dn) (m - 1) (x.size + 1) x 0 = q at *
  unfold ItemsPost at N
  cases q with
  | none =>
    clear hbz
    go_enter Tryz.func57, Tryz.ntmps57
    go_wp2_with fail
    refine (C.out _).mono ?_
    rintro _ w1 ⟨rfl, rfl⟩
    go_wp2_with fail
    refine (N.out _ HB0.out).mono ?_
    rintro _ w2 ⟨hb2, rfl⟩
    have c0 : w2.cell? ⟨w.heap.size, 0, none⟩ = some (.int .i64 0) := by rw [hb2.cell (by simp)]; go_simp
    have z0 : w2.frozen? ⟨w.heap.size, 0, none⟩ = false := by rw [hb2.frozen (by simp)]; go_simp
    have c1 : w2.cell? ⟨w.heap.size, 1, none⟩ = some (.int .i64 0) := by rw [hb2.cell (by simp)]; go_simp
    have z1 : w2.frozen? ⟨w.heap.size, 1, none⟩ = false := by rw [hb2.frozen (by simp)]; go_simp
    have c2 : w2.cell? ⟨w.heap.size, 2, none⟩ = some (.string ⟨#[]⟩) := by rw [hb2.cell (by simp)]; go_simp
    have z2 : w2.frozen? ⟨w.heap.size, 2, none⟩ = false := by rw [hb2.frozen (by simp)]; go_simp
    have c3 : w2.cell? ⟨w.heap.size, 3, none⟩ = some (.slice none 0 0) := by rw [hb2.cell (by simp)]; go_simp
    have z3 : w2.frozen? ⟨w.heap.size, 3, none⟩ = false := by rw [hb2.frozen (by simp)]; go_simp
    have c4 : w2.cell? ⟨w.heap.size, 4, none⟩ = some (.int .i64 0) := by rw [hb2.cell (by simp)]; go_simp
    have z4 : w2.frozen? ⟨w.heap.size, 4, none⟩ = false := by rw [hb2.frozen (by simp)]; go_simp
    have c5 : w2.cell? ⟨w.heap.size, 5, none⟩ = some (.int .i64 0) := by rw [hb2.cell (by simp)]; go_simp
    have z5 : w2.frozen? ⟨w.heap.size, 5, none⟩ = false := by rw [hb2.frozen (by simp)]; go_simp
    have HB2 := Lib.hid (HB0.out.trans (hb2.mono HB0.out.size))
    clear hb2
    go_wp2_with fail
    exact bodyPost_ret (v := errV 1) (by simp [results, Tryz.results57, go_sem, errV, c0, c1, c2, c3, c4, c5]) rfl ⟨((((((HB2.out.setCell (by simp) _).setCell (by simp) _).setCell (by simp) _).setCell (by simp) _).setCell (by simp) _).setCell (by simp) _), rfl⟩
  | some lz =>
    obtain ⟨l, z⟩ := lz
    have hz := (hbz l z rfl (by omega)).2.1
    clear hbz
    go_enter Tryz.func57, Tryz.ntmps57
    go_wp2_with fail
    refine (C.out _).mono ?_
    rintro _ w1 ⟨rfl, rfl⟩
    go_wp2_with fail
    refine (N.out _ HB0.out).mono ?_
    rintro _ w2 ⟨hb2, ad, cap0, rfl, hg⟩
    generalize hcap : l.len + cap0 = cap
    have HCAP := Lib.hid hcap
    clear hcap
    have c0 : w2.cell? ⟨w.heap.size, 0, none⟩ = some (.int .i64 0) := by rw [hb2.cell (by simp)]; go_simp
    have z0 : w2.frozen? ⟨w.heap.size, 0, none⟩ = false := by rw [hb2.frozen (by simp)]; go_simp
    have c1 : w2.cell? ⟨w.heap.size, 1, none⟩ = some (.int .i64 0) := by rw [hb2.cell (by simp)]; go_simp
    have z1 : w2.frozen? ⟨w.heap.size, 1, none⟩ = false := by rw [hb2.frozen (by simp)]; go_simp
    have c2 : w2.cell? ⟨w.heap.size, 2, none⟩ = some (.string ⟨#[]⟩) := by rw [hb2.cell (by simp)]; go_simp
    have z2 : w2.frozen? ⟨w.heap.size, 2, none⟩ = false := by rw [hb2.frozen (by simp)]; go_simp
    have c3 : w2.cell? ⟨w.heap.size, 3, none⟩ = some (.slice none 0 0) := by rw [hb2.cell (by simp)]; go_simp
    have z3 : w2.frozen? ⟨w.heap.size, 3, none⟩ = false := by rw [hb2.frozen (by simp)]; go_simp
    have c4 : w2.cell? ⟨w.heap.size, 4, none⟩ = some (.int .i64 0) := by rw [hb2.cell (by simp)]; go_simp
    have z4 : w2.frozen? ⟨w.heap.size, 4, none⟩ = false := by rw [hb2.frozen (by simp)]; go_simp
    have c5 : w2.cell? ⟨w.heap.size, 5, none⟩ = some (.int .i64 0) := by rw [hb2.cell (by simp)]; go_simp
    have z5 : w2.frozen? ⟨w.heap.size, 5, none⟩ = false := by rw [hb2.frozen (by simp)]; go_simp
    have HG := Lib.hid hg
    have HB2 := Lib.hid (HB0.out.trans (hb2.mono HB0.out.size))
    clear hb2 hg
    go_wp2_with fail
    refine bodyPost_ret (v := .tuple #[.agg #[.int .i64 3, .int .i64 0, .string ⟨#[]⟩, .slice ad l.len cap, .int .i64 k, .int .i64 (1 + (z : Int))], .int .i64 0]) (by simp [results, Tryz.results57, go_sem, c0, c1, c2, c3, c4, c5]) rfl ⟨((((((HB2.out.setCell (by simp) _).setCell (by simp) _).setCell (by simp) _).setCell (by simp) _).setCell (by simp) _).setCell (by simp) _), ad, cap0, ?_, ?_⟩
    · rw [HCAP.out]
      simp
    · refine HG.out.to (fun b hb _ => ⟨by simp at hb; omega, ?_⟩)
      have hne : b ≠ w.heap.size := by simp at hb; omega
      rw [heap_setCell_other _ _ _ _ hne, heap_setCell_other _ _ _ _ hne, heap_setCell_other _ _ _ _ hne, heap_setCell_other _ _ _ _ hne, heap_setCell_other _ _ _ _ hne, heap_setCell_other _ _ _ _ hne]

set_option maxRecDepth 100000 in
set_option maxHeartbeats 4000000 in
/-- No end. -/
theorem get_oth (d : Int) (t : ByteArray) (m : Int) (w : World) (hs : t.size ≤ 9223372036854775807) (h0 : (cutP t).2.2 = 0) (hd : d ≠ 0) (hm : m ≠ 0) (c : UInt8) (hc : (t.extract ((cutP t).2.1 - 1) (cutP t).2.1).data.toList = [c]) (n1 : ¬ c = 35) (n2 : ¬ c = 44) (n3 : ¬ c = 93) :
    Calls Tryz.prog 57 #[.string t, .int .i64 d, .int .i64 m] w (GetPost (.error 1) w) := by
  have C := Lib.hid (cut_p t hs)
  have hbd := cutP_bd t h0
  rw [← ByteArray.toList_eq] at hc
  generalize cutP t = r at *
  obtain ⟨x, k, e⟩ := r
  simp only at *
  subst h0
  obtain ⟨k1, k2, k3, _⟩ := hbd
  have b0 : (d == 0) = false := by rw [beq_eq_false_iff_ne]; exact hd
  have bm : (m == 0) = false := by rw [beq_eq_false_iff_ne]; exact hm
  have k1' : (1 : Int) ≤ k := by omega
  have k2' : (k : Int) ≤ t.size := by omega
  have k4 : ((k : Int) - 1).toNat = k - 1 := by omega
  have HB0 : Hid (Below w.heap.size w (w.alloc (.cells #[.int .i64 0, .int .i64 0, .string ⟨#[]⟩, .slice none 0 0, .int .i64 0, .int .i64 0] 78))) := Lib.hid ((Below.refl _ _).alloc (Nat.le_refl _) _)
  have q1 : ([c] == ([35] : List UInt8)) = false := by rw [beq_eq_false_iff_ne]; intro e; exact n1 (List.cons.inj e).1
  have q2 : ([c] == ([44] : List UInt8)) = false := by rw [beq_eq_false_iff_ne]; intro e; exact n2 (List.cons.inj e).1
  have q3 : ([c] == ([93] : List UInt8)) = false := by rw [beq_eq_false_iff_ne]; intro e; exact n3 (List.cons.inj e).1
  clear hd hm
  go_enter Tryz.func57, Tryz.ntmps57
  go_wp2_with fail
  refine (C.out _).mono ?_
  rintro _ w1 ⟨rfl, rfl⟩
  go_wp2_with fail
  exact bodyPost_ret (v := errV 1) (by simp [results, Tryz.results57, go_sem, errV]) rfl ⟨(Below.refl _ _).alloc (Nat.le_refl _) _, rfl⟩

theorem get_zero : GetQ 0 := by
  intro t m w hs hm0 hm1 hlib
  unfold getP
  by_cases h0 : (cutP t).2.2 = 0
  · rw [if_pos h0]
    exact get_deep 0 t m w hs h0 (.inl rfl)
  · rw [if_neg h0]
    exact get_cut 0 t m w hs h0

theorem get_succ (d : Nat) (hd : d ≤ 1000000) (h : GetQ d) : GetQ (d + 1) := by
  intro t m w hs hm0 hm1 hlib
  have hI : ItemsQ d := fun t m w hs hm0 hm1 hlib => items_q d h t m w hs hm0 hm1 hd hlib
  have hd0 : ((d + 1 : Nat) : Int) ≠ 0 := by omega
  unfold getP
  by_cases h0 : (cutP t).2.2 = 0
  · rw [if_pos h0]
    by_cases hm : m = 0
    · rw [if_pos hm]
      exact get_deep _ t m w hs h0 (.inr hm)
    · rw [if_neg hm]
      have hb := cutP_bd t h0
      obtain ⟨c, hc⟩ := last_one t (cutP t).2.1 hb.1 hb.2.1
      simp only [hc]
      by_cases n1 : c = 35
      · subst n1
        rw [if_pos rfl]
        exact get_num _ t m w hs hlib h0 hd0 hm hc
      · rw [if_neg (fun e => n1 (List.cons.inj e).1)]
        by_cases n2 : c = 44
        · subst n2
          rw [if_pos rfl]
          exact get_str _ t m w hs h0 hd0 hm hc
        · rw [if_neg (fun e => n2 (List.cons.inj e).1)]
          by_cases n3 : c = 93
          · subst n3
            rw [if_pos rfl]
            exact get_lst _ t m w hs hlib h0 hd0 hm hm0 hm1 hc d (by omega) hd hI
          · rw [if_neg (fun e => n3 (List.cons.inj e).1)]
            exact get_oth _ t m w hs h0 hd0 hm c hc n1 n2 n3
  · rw [if_neg h0]
    exact get_cut _ t m w hs h0

theorem get_q : ∀ d : Nat, d ≤ 1000 → GetQ d
  | 0, _ => get_zero
  | d + 1, h => get_succ d (by omega) (get_q d (by omega))

end Go.Proofs.YtmamepmfbfinlaaGreatDoor
