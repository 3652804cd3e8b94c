/-
 Contracts of the program, and what they rest on.
-/
import Derived.Test.YtlpgphiccjkenaaGreatDoorTk
import Derived.Test.YtlpgphiccjkenaaGreatDoorM04
import Derived.Maps.AppendAt
import Derived.Lib.ParseIntBTie
set_option maxRecDepth 100000
set_option maxHeartbeats 16000000
namespace Go.Proofs.YtlpgphiccjkenaaGreatDoor
open Go.RowKit
theorem infoVal : (Tryz.prog.info? 88).map (fun i => (i.zero, i.size, i.bytes)) = some (some (.agg #[.int .i64 0, .int .i64 0, .string ⟨#[]⟩, .slice none 0 0]), 4, 56) := by kernel_rfl
theorem step_arm {g : ByteArray → Int → Except Nat G} {m : Int} {f : Nat} {T : ByteArray} {n : Nat} (h : ¬ T.size = 0) : itemsP g m (f + 1) T n = (match g T (m - n) with
   | .error _ => none
   | .ok x => match itemsP g m f (T.extract x.b T.size) (n + x.c) with
    | none => none
    | some (r, z) => some (.cons x.k x.n x.s x.l r, z)) := by
 rw [itemsP, if_neg h]
 rfl
theorem op_append_at {P : Program} {K : Act → World → Prop} {Q : Exit → Act → World → Prop} {o : Oper} {a : Act} {w : World} (sl y : Operand) (t : TypeId)
  (ho : o.op = .call { callee := .builtin .append, args := #[sl, y], argTypes := #[t, t] })
  (base : Nat) (e : TypeId) (i : TypeInfo) (z : Value) (size bytes : Nat) (ht : P.underlying t = some (.slice e)) (hi : P.info? e = some i) (hz : i.zero = some z)
  (hsize : i.size = size) (hby : i.bytes = bytes) (hzs : z.cells.size = size) (hsz : 0 < size)
  (v : Value) (n : Nat) (xs : List Value) (hs : a.eval sl = v) (hown : w.ownsRow base e size v n xs)
  (ad : Addr) (m c : Nat) (news : List Value) (hx : a.eval y = .slice (some ad) m c) (hl : news.length = m * size) (hnews : ∀ j u, news[j]? = some u → w.cell? (ad.add j) = some u) (h1 : ∀ u ∈ news, u.oneCell' = true)
  (h63 : n + m ≤ maxLen) (hbytes : (n + m) * bytes ≤ 140737488355328) (hbase : base ≤ w.heap.size)
  (h : ∀ v' w', w'.ownsRow base e size v' (n + m) (xs ++ news) → w.grownBy w' v.ownBlock → (v'.ownBlock = v.ownBlock ∨ v'.ownBlock = some w.heap.size) → K (a.put o.dst v') w') :
  Oper.wp P o a w K Q := by
 obtain ⟨v', w', hr, h2, h3, _, h5⟩ := run_append_own_at (P := P) w base t o.type e i z size bytes ht hi hz hsize hby hzs hsz v n xs hown ad m c news hl hnews h1 h63 hbytes hbase
 unfold Oper.wp execOp
 simp only [ho, resolve, invoke, builtin, Sem.run_bind, Sem.run_pure, Result.andThen_ok, List.map_toArray, List.map_cons, List.map_nil, hs, hx, hr]
 exact h v' w' h2 h3 h5
def strSize (v : Value) : Nat := match v with | .string T => T.size | _ => 0
theorem owns_old {w : World} {base : Nat} {e : TypeId} {z : Nat} {v : Value} {n : Nat} {xs : List Value} (h : w.ownsRow base e z v n xs) : ∀ j, v.ownBlock = some j → j < w.heap.size := by
 intro j hj
 rcases h.2 with ⟨rfl, _⟩ | ⟨g, cap, cur, rfl, _, hh, _⟩
 ·cases hj
 ·cases hj
  rcases Nat.lt_or_ge g w.heap.size with h1 | h1
  ·exact h1
  ·rw [Array.getElem?_eq_none h1] at hh
   cases hh
theorem owns_shape4 {w : World} {base : Nat} {e : TypeId} {z : Nat} {v : Value} {n : Nat} {xs : List Value} (h : w.ownsRow base e z v n xs) : ∃ ad cap, v = .slice ad n cap := by
 rcases h.2 with ⟨rfl, rfl⟩ | ⟨g, cap, cur, rfl, _⟩
 ·exact ⟨_, _, rfl⟩
 ·exact ⟨_, _, rfl⟩
def PartS (q : Nat) (x : G) (ad : Option Addr) (cap : Nat) (w : World) : Prop :=
 w.cell? ⟨q, 0, none⟩ = some (.int .i64 x.k) ∧ w.cell? ⟨q, 1, none⟩ = some (.int .i64 x.n) ∧ w.cell? ⟨q, 2, none⟩ = some (.string x.s) ∧ w.cell? ⟨q, 3, none⟩ = some (.slice ad x.l.len cap) ∧
  w.cell? ⟨q, 4, none⟩ = some (.int .i64 (x.b : Int)) ∧ w.cell? ⟨q, 5, none⟩ = some (.int .i64 (x.c : Int))
theorem PartS.kept {q : Nat} {x : G} {ad : Option Addr} {cap : Nat} {w w' : World} (h : PartS q x ad cap w) (hk : w'.heap[q]? = w.heap[q]?) : PartS q x ad cap w' := by
 obtain ⟨h0, h1, h2, h3, h4, h5⟩ := h
 exact ⟨by rw [cell_congr hk]; exact h0, by rw [cell_congr hk]; exact h1, by rw [cell_congr hk]; exact h2, by rw [cell_congr hk]; exact h3, by rw [cell_congr hk]; exact h4, by rw [cell_congr hk]; exact h5⟩
theorem cutP_err (t : ByteArray) (h : (cutP t).2.2 ≠ 0) : (cutP t).2.2 = 1 ∨ (cutP t).2.2 = 2 := by
 have he := lenP_err t.data.toList 0 0
 unfold cutP at h ⊢
 generalize lenP 0 0 t.data.toList = r at *
 obtain ⟨n, k, e⟩ := r
 simp only at *
 by_cases h0 : e = 0
 ·rw [if_pos h0] at h ⊢
  by_cases h5 : t.size - k ≤ n
  ·rw [if_pos h5]; exact .inr rfl
  ·rw [if_neg h5] at h; exact absurd rfl h
 ·rw [if_neg h0]
  exact (he h0).2
theorem getP_err : ∀ (d : Nat) (t : ByteArray) (m : Int) (e : Nat), getP d t m = .error e → e = 1 ∨ e = 2
 | 0, t, m, e, h => by
  unfold getP at h
  split at h
  ·cases h; exact .inl rfl
  ·rename_i h0; cases h; exact cutP_err t h0
 | d + 1, t, m, e, h => by
  unfold getP at h
  split at h
  ·split at h
   ·cases h; exact .inl rfl
   ·simp only at h
    split at h
    ·split at h
     ·cases h
     ·cases h; exact .inl rfl
    ·split at h
     ·cases h
     ·split at h
      ·split at h
       ·cases h
       ·cases h; exact .inl rfl
      ·cases h; exact .inl rfl
  ·rename_i h0; cases h; exact cutP_err t h0
theorem F.app_nil : ∀ f : F, f.app .nil = f
 | .nil => rfl
 | .cons k n s l r => by simp only [F.app, F.app_nil r]
theorem owns_repG {w : World} {B : Nat} {A A' : Nat → Prop} {la : Option Addr} {lc : Nat} {L : F} {xs : List Value} {e : TypeId} (h : w.ownsRow B e 4 (.slice la L.len lc) L.len xs) (hX : RepX w A xs L) (hA : ∀ b, A b → A' b) (hB : ∀ b, B ≤ b → A' b) : RepG w A' la L := by
 have hc := fun {g : Nat} (hv : (Value.slice la L.len lc).ownBlock = some g) => h.cells (g := g) hv
 rcases h.2 with ⟨hv, h0⟩ | ⟨g, cap, cur, hv, hg, hcur, _⟩
 ·cases L with
  | nil => exact .inl rfl
  | cons => simp [F.len] at h0
 ·have hla : la = some ⟨g, 0, none⟩ := by injection hv
  subst hla
  exact .inr ⟨g, 0, rfl, RepX.repA hA ⟨hB g hg, cur, e, hcur⟩ L xs 0 hX (fun j u hj => by
   have := hc rfl j u hj
   rw [show (⟨g, 0, none⟩ : Addr).add j = ⟨g, 0 + j, none⟩ by unfold Addr.add; split <;> simp_all] at this
   exact this)⟩
def ItRel (w : World) (g : ByteArray → Int → Except Nat G) (m : Int) (R : Option (F × Nat)) (tv lv nv : Value) (wr : World) : Prop :=
 ∃ (T : ByteArray) (n f : Nat) (L : F) (xs : List Value), tv = .string T ∧ nv = .int .i64 n ∧ (n : Int) ≤ m ∧ T.size ≤ 9999999 ∧ T.size + 1 ≤ f ∧ (∃ a c, lv = .slice a L.len c) ∧ L.len ≤ n ∧
  wr.ownsRow w.heap.size 88 4 lv L.len xs ∧ RepX wr (fun b => w.heap.size ≤ b ∧ lv.ownBlock ≠ some b) xs L ∧
  Hid (R = (itemsP g m f T n).map fun q => (L.app q.1, q.2)) ∧ Below w.heap.size w wr
theorem items_q (d : Nat) (hQ : GetQ d) (t : ByteArray) (m : Int) (w : World) (hs : t.size ≤ 9999999) (hm0 : 0 ≤ m) (hm1 : m ≤ 1000000) (_hd : d ≤ 1000000) (hlib : LibAt w) :
  Calls Tryz.prog 168 #[.string t, .int .i64 d, .int .i64 m] w (ItemsPost (itemsP (getP d) m (t.size + 1) t 0) w) := by
 obtain ⟨R, hR⟩ : ∃ R, itemsP (getP d) m (t.size + 1) t 0 = R := ⟨_, rfl⟩
 rw [hR]
 have HR := Lib.hid hR
 have HQ := Lib.hid hQ
 have HLIB := Lib.hid hlib
 clear hR hQ hlib
 obtain ⟨i0, hi, hz0, hz1, hz2⟩ := info_parts infoVal
 go_enter Tryz.func168, Tryz.ntmps168
 go_wp2_with fail
 go_loopw [0, 9, 10] (fun tv lv nv wr => ItRel w (getP d) m R tv lv nv wr) (fun tv _ _ _ => strSize tv)
 case atStart =>
  refine ⟨t, 0, t.size + 1, .nil, [], rfl, rfl, by omega, hs, Nat.le_refl _, ⟨_, _, rfl⟩, Nat.le_refl _, ⟨rfl, .inr ⟨w.heap.size, 0, #[], rfl, Nat.le_refl _, ?_, Nat.le_refl 0, by unfold maxLen; omega, rfl, rfl⟩⟩, rfl, Lib.hid ?_, (Below.refl _ _).alloc (Nat.le_refl _) _⟩
  ·have h := heap_alloc_new w (.cells #[] 88)
   simpa using h
  ·rw [HR.out]
   cases R with
   | none => rfl
   | some q => rfl
 case round =>
  obtain ⟨T, n, f, L, xs, rfl, rfl, hnm, hT, hf, ⟨la, lc, rfl⟩, hLn, hown, hX, hH, hB⟩ := hrel
  by_cases hT0 : T.size = 0
  ·obtain rfl := empty_of_size hT0
   obtain ⟨f, rfl⟩ : ∃ f', f = f' + 1 := ⟨f - 1, by omega⟩
   have hH' := hH.out
   rw [itemsP, if_pos hT0] at hH'
   simp only [Option.map_some, F.app_nil] at hH'
   subst hH'
   have HG := Lib.hid (owns_repG (A' := fun b => w.heap.size ≤ b) hown hX (fun _ h => h.1) (fun _ h => h))
   have HB := Lib.hid hB
   clear hX hown hH hT0 hB
   go_wp2_with fail
   exact bodyPost_ret (v := .tuple #[.slice la L.len lc, .int .i64 (n : Int), .bool true]) (by simp [results, Tryz.results168, go_sem]) rfl ⟨HB.out, la, lc, rfl, HG.out⟩
  ·have hT1 := isEmpty_ne hT0
   obtain ⟨f, rfl⟩ : ∃ f', f = f' + 1 := ⟨f - 1, by omega⟩
   have hH' := hH.out
   rw [step_arm hT0] at hH'
   have CG := Lib.hid (HQ.out T (m - n) wr (by omega) (by omega) (by omega) (HLIB.out.below hB))
   cases hx : getP d T (m - n) with
   | error e =>
    rw [hx] at hH'
    simp only [Option.map_none] at hH'
    subst hH'
    unfold GetPost at CG
    rw [hx] at CG
    have he : ((e : Int) != 0) = true := by
     rw [bne_iff_ne]
     have := getP_err d T _ e hx
     omega
    have HB := Lib.hid hB
    clear hX hown hH hB hx
    go_wp2_with fail
    refine CG.out.mono ?_
    rintro _ w2 ⟨hb2, rfl⟩
    have HB2 := Lib.hid hb2
    clear hb2
    go_wp2_with fail
    exact bodyPost_ret (v := .tuple #[.slice none 0 0, .int .i64 0, .bool false]) (by simp [results, Tryz.results168, go_sem]) rfl ⟨(HB.out.trans (HB2.out.mono HB.out.size)).alloc (by have := HB.out.size; have := HB2.out.size; omega) _, rfl⟩
   | ok x =>
    rw [hx] at hH'
    simp only at hH'
    unfold GetPost at CG
    rw [hx] at CG
    obtain ⟨⟨b1, b2, _, _⟩, b5, b6⟩ := getP_bd d T _ x hx (by omega)
    have b7 := cutP_bd T b6
    rw [← b5] at b7
    have HX := Lib.hid (And.intro hX (And.intro hown hH'))
    have HB := Lib.hid hB
    clear hX hown hH' hH hB b5 b6
    go_wp2_with fail
    refine CG.out.mono ?_
    rintro _ w2 ⟨hb2, ad, cap, rfl, hg⟩
    have HG := Lib.hid (And.intro hb2 hg)
    clear hb2 hg
    go_wp2_with fail
    have hw1 : IntKind.i64.wrap ((n : Int) + (x.c : Int)) = (n : Int) + (x.c : Int) := IntWalk.i64_in _ (by omega)
    have HBW : Hid (Below wr.heap.size wr (((w2.alloc (.cells #[.int .i64 x.k, .int .i64 x.n, .string x.s, .slice ad x.l.len cap, .int .i64 (x.b : Int), .int .i64 (x.c : Int)] 178)).alloc (.cells #[.int .i64 x.k, .int .i64 x.n, .string x.s, .slice ad x.l.len cap] 88)).drew)) := Lib.hid (((HG.out.1.alloc HG.out.1.size _).alloc (by simp; have := HG.out.1.size; omega) _).drew)
    have hq : w.heap.size ≤ w2.heap.size := Nat.le_trans HB.out.size HG.out.1.size
    have hS : PartS w2.heap.size x ad cap (World.drew (w2.alloc (.cells #[.int .i64 x.k, .int .i64 x.n, .string x.s, .slice ad x.l.len cap, .int .i64 (x.b : Int), .int .i64 (x.c : Int)] 178))) := by
     refine ⟨?_, ?_, ?_, ?_, ?_, ?_⟩ <;> go_simp
    refine wp_region_held (S := PartS w2.heap.size x ad cap) (by kernel_rfl) ?_
    change wpAnyH _ _ _ _ _ _ _ _ (World.drew _)
    refine tk 0 (.slice la L.len lc) rfl ?_ hS ?_
    ·intro w' ⟨s0, s1, s2, s3, s4, s5⟩; go_simp
    refine tk 1 (.pointer (some ⟨w2.heap.size, 0, none⟩)) rfl ?_ hS ?_
    ·intro w' ⟨s0, s1, s2, s3, s4, s5⟩; go_simp
    refine tk 2 (.agg #[.int .i64 x.k, .int .i64 x.n, .string x.s, .slice ad x.l.len cap]) rfl ?_ hS ?_
    ·intro w' ⟨s0, s1, s2, s3, s4, s5⟩; go_simp
    refine tk 5 (.int .i64 (n : Int)) rfl ?_ hS ?_
    ·intro w' ⟨s0, s1, s2, s3, s4, s5⟩; go_simp
    refine tk 6 (.pointer (some ⟨w2.heap.size, 5, none⟩)) rfl ?_ hS ?_
    ·intro w' ⟨s0, s1, s2, s3, s4, s5⟩; go_simp
    refine tk 7 (.int .i64 (x.c : Int)) rfl ?_ hS ?_
    ·intro w' ⟨s0, s1, s2, s3, s4, s5⟩; go_simp
    refine tk 8 (.int .i64 ((n : Int) + (x.c : Int))) rfl ?_ hS ?_
    ·intro w' ⟨s0, s1, s2, s3, s4, s5⟩; go_simp
    refine tk 9 (.string T) rfl ?_ hS ?_
    ·intro w' ⟨s0, s1, s2, s3, s4, s5⟩; go_simp
    refine tk 10 (.pointer (some ⟨w2.heap.size, 4, none⟩)) rfl ?_ hS ?_
    ·intro w' ⟨s0, s1, s2, s3, s4, s5⟩; go_simp
    refine tk 11 (.int .i64 (x.b : Int)) rfl ?_ hS ?_
    ·intro w' ⟨s0, s1, s2, s3, s4, s5⟩; go_simp
    refine tk 12 (.string (T.extract x.b T.size)) rfl ?_ hS ?_
    ·intro w' ⟨s0, s1, s2, s3, s4, s5⟩; go_simp
    refine wpAnyH_ready (rs := [3]) (by kernel_rfl) (by simp) ?_
    refine AllReadyH.cons rfl (fun K hK => ?_) AllReadyH.nil
    go_simp
    refine hK.out _ _ ?_ (fun hS1 => ?_)
    ·refine ⟨?_, ?_, ?_, ?_, ?_, ?_⟩ <;> go_simp
    clear hK hS
    refine wpAnyH_ready (rs := [4]) (by kernel_rfl) (by simp) ?_
    refine AllReadyH.cons rfl (fun K2 hK2 => ?_) AllReadyH.nil
    rw [if_pos (by rfl)]
    refine op_append_at (.tmp 27) (.tmp 30) 86 rfl w.heap.size 88 i0 _ 4 56 Tryz.underlying86 hi hz0 hz1 hz2 rfl (by decide) (.slice la L.len lc) L.len xs rfl ?_ ⟨w2.heap.size + 1, 0, none⟩ 1 1 [.int .i64 x.k, .int .i64 x.n, .string x.s, .slice ad x.l.len cap] rfl rfl ?_ ?_ ?_ ?_ ?_ ?_
    ·exact owns_below HX.out.2.1 HBW.out
    ·intro j u hj
     rcases j with _ | _ | _ | _ | j
     ·cases hj; go_simp
     ·cases hj; go_simp
     ·cases hj; go_simp
     ·cases hj; go_simp
     ·simp at hj
    ·intro u hu
     simp at hu
     rcases hu with rfl | rfl | rfl | rfl <;> rfl
    ·unfold maxLen; omega
    ·omega
    ·exact Nat.le_trans HB.out.size HBW.out.size
    intro v' w3 hown3 hgrow3 hloc3
    obtain ⟨va, vc, rfl⟩ := owns_shape4 hown3
    go_simp
    refine hK2.out _ _ ?_ (fun hS2 => ?_)
    ·refine hS1.kept (hgrow3.block _ (by simp; omega) ?_)
     intro e
     have h9 := owns_old HX.out.2.1 _ (by first | exact e | exact e.symm)
     have := HG.out.1.size
     omega
    clear hK2 hS1
    refine wpAnyH_ready (rs := [13]) (by kernel_rfl) (by simp) ?_
    refine AllReadyH.cons rfl (fun K3 hK3 => ?_) AllReadyH.nil
    go_simp
    refine hK3.out _ _ hS2 (fun _ => ?_)
    clear hK3
    refine wpAnyH_ready (rs := [14]) (by kernel_rfl) (by simp) ?_
    refine AllReadyH.cons rfl (fun K3 hK3 => ?_) AllReadyH.nil
    go_simp
    refine hK3.out _ _ hS2 (fun _ => ?_)
    clear hK3
    refine wpAnyH_ready (rs := [15]) (by kernel_rfl) (by simp) ?_
    refine AllReadyH.cons rfl (fun K3 hK3 => ?_) AllReadyH.nil
    go_simp
    refine hK3.out _ _ hS2 (fun _ => ?_)
    clear hK3
    refine wpAnyH_done (by kernel_rfl) ?_ _
    go_wp2_with fail
    go_roundw
    case rel =>
     have e1 : (L.app (.cons x.k x.n x.s x.l .nil)).len = L.len + 1 := by rw [F.app_len]; rfl
     have h1 := HB.out.size
     have h2 := HG.out.1.size
     have hW : w2.heap.size ≤ (((w2.alloc (.cells #[.int .i64 x.k, .int .i64 x.n, .string x.s, .slice ad x.l.len cap, .int .i64 (x.b : Int), .int .i64 (x.c : Int)] 178)).alloc (.cells #[.int .i64 x.k, .int .i64 x.n, .string x.s, .slice ad x.l.len cap] 88)).drew).heap.size := by simp; omega
     have hold := owns_old HX.out.2.1
     have hb2 : Below w2.heap.size w2 (((w2.alloc (.cells #[.int .i64 x.k, .int .i64 x.n, .string x.s, .slice ad x.l.len cap, .int .i64 (x.b : Int), .int .i64 (x.c : Int)] 178)).alloc (.cells #[.int .i64 x.k, .int .i64 x.n, .string x.s, .slice ad x.l.len cap] 88)).drew) := (((Below.refl _ _).alloc (Nat.le_refl _) _).alloc (by simp) _).drew
     have hne : ∀ b, w.heap.size ≤ b → b < w2.heap.size → (Value.slice la L.len lc).ownBlock ≠ some b → (Value.slice va (L.len + 1) vc).ownBlock ≠ some b ∧ w3.heap[b]? = w2.heap[b]? := by
      intro b hb hlt hn
      refine ⟨?_, ?_⟩
      ·rcases hloc3 with h | h
       ·rw [h]; exact hn
       ·rw [h]
        intro e
        have := Option.some.inj e
        omega
      ·rw [hgrow3.block b (by omega) (fun e => hn (by first | exact e | exact e.symm)), hb2.block b hlt]
     refine ⟨T.extract x.b T.size, n + x.c, f, L.app (.cons x.k x.n x.s x.l .nil), xs ++ [.int .i64 x.k, .int .i64 x.n, .string x.s, .slice ad x.l.len cap], rfl, by go_num, by omega, ?_, ?_, ⟨va, vc, by rw [e1]⟩, by omega, by rw [e1]; exact hown3, ?_, Lib.hid ?_, ?_⟩
     ·simp only [ByteArray.size_extract]; omega
     ·simp only [ByteArray.size_extract]; omega
     ·refine RepX.snoc (HG.out.2.to fun b hb hlt => ?_) L xs (RepX.to (fun b hb hlt => ?_) L xs HX.out.1)
      ·have := hne b (by omega) hlt (fun e => by have := hold b e; omega)
       exact ⟨⟨by omega, this.1⟩, this.2⟩
      ·have := hne b hb.1 (by omega) hb.2
       exact ⟨⟨hb.1, this.1⟩, by rw [this.2, HG.out.1.block b hlt]⟩
     ·rw [HX.out.2.2]
      cases itemsP (getP d) m f (T.extract x.b T.size) (n + x.c) with
      | none => rfl
      | some q =>
       obtain ⟨r, z⟩ := q
       simp only [Option.map_some, F.app_assoc]
       rfl
     ·exact (HB.out.trans (HBW.out.mono HB.out.size)).grown hgrow3 (Nat.le_trans HB.out.size HBW.out.size) (owns_base HX.out.2.1)
    case measure =>
     show (T.extract x.b T.size).size < T.size
     simp only [ByteArray.size_extract]
     omega
theorem last_one (t : ByteArray) (k : Nat) (h1 : 1 ≤ k) (h2 : k ≤ t.size) : ∃ c, (t.extract (k - 1) k).data.toList = [c] := by
 have h : (t.extract (k - 1) k).data.toList.length = 1 := by
  show (t.extract (k - 1) k).size = 1
  rw [ByteArray.size_extract]
  omega
 cases hl : (t.extract (k - 1) k).data.toList with
 | nil => rw [hl] at h; cases h
 | cons c l =>
  rw [hl] at h
  cases l with
  | nil => exact ⟨c, rfl⟩
  | cons => simp at h
def errV (e : Nat) : Value := .tuple #[.agg #[.int .i64 0, .int .i64 0, .string ⟨#[]⟩, .slice none 0 0, .int .i64 0, .int .i64 0], .int .i64 e]
theorem get_cut (d : Int) (t : ByteArray) (m : Int) (w : World) (hs : t.size ≤ 9223372036854775807) (h0 : ¬ (cutP t).2.2 = 0) :
  Calls Tryz.prog 136 #[.string t, .int .i64 d, .int .i64 m] w (GetPost (.error (cutP t).2.2) w) := by
 have C := Lib.hid (cut_p t hs)
 have he := cutP_err t h0
 generalize cutP t = r at *
 obtain ⟨x, k, e⟩ := r
 simp only at *
 have h0' : ((e : Int) != 0) = true := by rw [bne_iff_ne]; omega
 clear h0 he
 go_enter Tryz.func136, Tryz.ntmps136
 go_wp2_with fail
 refine (C.out _).mono ?_
 rintro _ w1 ⟨rfl, rfl⟩
 go_wp2_with fail
 exact bodyPost_ret (v := errV e) (by simp [results, Tryz.results136, go_sem, errV]) rfl ⟨(Below.refl _ _).alloc (Nat.le_refl _) _, rfl⟩
theorem get_deep (d : Int) (t : ByteArray) (m : Int) (w : World) (hs : t.size ≤ 9223372036854775807) (h0 : (cutP t).2.2 = 0) (hd : d = 0 ∨ m = 0) :
  Calls Tryz.prog 136 #[.string t, .int .i64 d, .int .i64 m] w (GetPost (.error 1) w) := by
 have C := Lib.hid (cut_p t hs)
 generalize cutP t = r at *
 obtain ⟨x, k, e⟩ := r
 simp only at *
 subst h0
 by_cases hd0 : d = 0
 ·subst hd0
  clear hd
  go_enter Tryz.func136, Tryz.ntmps136
  go_wp2_with fail
  refine (C.out _).mono ?_
  rintro _ w1 ⟨rfl, rfl⟩
  go_wp2_with fail
  exact bodyPost_ret (v := errV 1) (by simp [results, Tryz.results136, go_sem, errV]) rfl ⟨(Below.refl _ _).alloc (Nat.le_refl _) _, rfl⟩
 ·obtain rfl : m = 0 := hd.resolve_left hd0
  have b0 : (d == 0) = false := by rw [beq_eq_false_iff_ne]; exact hd0
  clear hd hd0
  go_enter Tryz.func136, Tryz.ntmps136
  go_wp2_with fail
  refine (C.out _).mono ?_
  rintro _ w1 ⟨rfl, rfl⟩
  go_wp2_with fail
  exact bodyPost_ret (v := errV 1) (by simp [results, Tryz.results136, go_sem, errV]) rfl ⟨(Below.refl _ _).alloc (Nat.le_refl _) _, rfl⟩
theorem get_num (d : Int) (t : ByteArray) (m : Int) (w : World) (hs : t.size ≤ 9223372036854775807) (hlib : LibAt w) (h0 : (cutP t).2.2 = 0) (hd : d ≠ 0) (hm : m ≠ 0) (hc : (t.extract ((cutP t).2.1 - 1) (cutP t).2.1).data.toList = [35]) :
  Calls Tryz.prog 136 #[.string t, .int .i64 d, .int .i64 m] w (GetPost (match numP (cutP t).1 with | some v => .ok ⟨1, v, ⟨#[]⟩, .nil, (cutP t).2.1, 1⟩ | none => .error 1) w) := by
 have C := Lib.hid (cut_p t hs)
 have hbd := cutP_bd t h0
 rw [← ByteArray.toList_eq] at hc
 have N := Lib.hid (fun w1 (h : Below w.heap.size w w1) => number_p (cutP t).1 hbd.2.2.1 w1 (hlib.below h))
 generalize cutP t = r at *
 obtain ⟨x, k, e⟩ := r
 simp only at *
 subst h0
 obtain ⟨k1, k2, k3, _⟩ := hbd
 have b0 : (d == 0) = false := by rw [beq_eq_false_iff_ne]; exact hd
 have bm : (m == 0) = false := by rw [beq_eq_false_iff_ne]; exact hm
 have k1' : (1 : Int) ≤ k := by omega
 have k2' : (k : Int) ≤ t.size := by omega
 have k4 : ((k : Int) - 1).toNat = k - 1 := by omega
 have HB0 : Hid (Below w.heap.size w (w.alloc (.cells #[.int .i64 0, .int .i64 0, .string ⟨#[]⟩, .slice none 0 0, .int .i64 0, .int .i64 0] 178))) := Lib.hid ((Below.refl _ _).alloc (Nat.le_refl _) _)
 unfold numV at N
 clear hd hm hlib
 cases hn : numP x with
 | none =>
  rw [hn] at N
  clear hn
  go_enter Tryz.func136, Tryz.ntmps136
  go_wp2_with fail
  refine (C.out _).mono ?_
  rintro _ w1 ⟨rfl, rfl⟩
  go_wp2_with fail
  refine (N.out _ HB0.out).mono ?_
  rintro _ w2 ⟨rfl, hb2⟩
  have c0 : w2.cell? ⟨w.heap.size, 0, none⟩ = some (.int .i64 0) := by rw [hb2.cell (by simp)]; go_simp
  have z0 : w2.frozen? ⟨w.heap.size, 0, none⟩ = false := by rw [hb2.frozen (by simp)]; go_simp
  have c1 : w2.cell? ⟨w.heap.size, 1, none⟩ = some (.int .i64 0) := by rw [hb2.cell (by simp)]; go_simp
  have z1 : w2.frozen? ⟨w.heap.size, 1, none⟩ = false := by rw [hb2.frozen (by simp)]; go_simp
  have c2 : w2.cell? ⟨w.heap.size, 2, none⟩ = some (.string ⟨#[]⟩) := by rw [hb2.cell (by simp)]; go_simp
  have z2 : w2.frozen? ⟨w.heap.size, 2, none⟩ = false := by rw [hb2.frozen (by simp)]; go_simp
  have c3 : w2.cell? ⟨w.heap.size, 3, none⟩ = some (.slice none 0 0) := by rw [hb2.cell (by simp)]; go_simp
  have z3 : w2.frozen? ⟨w.heap.size, 3, none⟩ = false := by rw [hb2.frozen (by simp)]; go_simp
  have c4 : w2.cell? ⟨w.heap.size, 4, none⟩ = some (.int .i64 0) := by rw [hb2.cell (by simp)]; go_simp
  have z4 : w2.frozen? ⟨w.heap.size, 4, none⟩ = false := by rw [hb2.frozen (by simp)]; go_simp
  have c5 : w2.cell? ⟨w.heap.size, 5, none⟩ = some (.int .i64 0) := by rw [hb2.cell (by simp)]; go_simp
  have z5 : w2.frozen? ⟨w.heap.size, 5, none⟩ = false := by rw [hb2.frozen (by simp)]; go_simp
  have HB2 := Lib.hid (HB0.out.trans (hb2.mono HB0.out.size))
  have hlt : w.heap.size ≤ w2.heap.size := HB2.out.size
  clear hb2
  go_wp2_with fail
  exact bodyPost_ret (v := errV 1) (by simp [results, Tryz.results136, go_sem, errV, c0, c1, c2, c3, c4, c5]) rfl ⟨((((((HB2.out.setCell (by simp) _).setCell (by simp) _).setCell (by simp) _).setCell (by simp) _).setCell (by simp) _).setCell (by simp) _), rfl⟩
 | some v =>
  rw [hn] at N
  clear hn
  go_enter Tryz.func136, Tryz.ntmps136
  go_wp2_with fail
  refine (C.out _).mono ?_
  rintro _ w1 ⟨rfl, rfl⟩
  go_wp2_with fail
  refine (N.out _ HB0.out).mono ?_
  rintro _ w2 ⟨rfl, hb2⟩
  have c0 : w2.cell? ⟨w.heap.size, 0, none⟩ = some (.int .i64 0) := by rw [hb2.cell (by simp)]; go_simp
  have z0 : w2.frozen? ⟨w.heap.size, 0, none⟩ = false := by rw [hb2.frozen (by simp)]; go_simp
  have c1 : w2.cell? ⟨w.heap.size, 1, none⟩ = some (.int .i64 0) := by rw [hb2.cell (by simp)]; go_simp
  have z1 : w2.frozen? ⟨w.heap.size, 1, none⟩ = false := by rw [hb2.frozen (by simp)]; go_simp
  have c2 : w2.cell? ⟨w.heap.size, 2, none⟩ = some (.string ⟨#[]⟩) := by rw [hb2.cell (by simp)]; go_simp
  have z2 : w2.frozen? ⟨w.heap.size, 2, none⟩ = false := by rw [hb2.frozen (by simp)]; go_simp
  have c3 : w2.cell? ⟨w.heap.size, 3, none⟩ = some (.slice none 0 0) := by rw [hb2.cell (by simp)]; go_simp
  have z3 : w2.frozen? ⟨w.heap.size, 3, none⟩ = false := by rw [hb2.frozen (by simp)]; go_simp
  have c4 : w2.cell? ⟨w.heap.size, 4, none⟩ = some (.int .i64 0) := by rw [hb2.cell (by simp)]; go_simp
  have z4 : w2.frozen? ⟨w.heap.size, 4, none⟩ = false := by rw [hb2.frozen (by simp)]; go_simp
  have c5 : w2.cell? ⟨w.heap.size, 5, none⟩ = some (.int .i64 0) := by rw [hb2.cell (by simp)]; go_simp
  have z5 : w2.frozen? ⟨w.heap.size, 5, none⟩ = false := by rw [hb2.frozen (by simp)]; go_simp
  have HB2 := Lib.hid (HB0.out.trans (hb2.mono HB0.out.size))
  clear hb2
  go_wp2_with fail
  exact bodyPost_ret (v := .tuple #[.agg #[.int .i64 1, .int .i64 v, .string ⟨#[]⟩, .slice none 0 0, .int .i64 k, .int .i64 1], .int .i64 0]) (by simp [results, Tryz.results136, go_sem, c0, c1, c2, c3, c4, c5]) rfl ⟨((((((HB2.out.setCell (by simp) _).setCell (by simp) _).setCell (by simp) _).setCell (by simp) _).setCell (by simp) _).setCell (by simp) _), none, 0, rfl, .inl rfl⟩
theorem get_str (d : Int) (t : ByteArray) (m : Int) (w : World) (hs : t.size ≤ 9223372036854775807) (h0 : (cutP t).2.2 = 0) (hd : d ≠ 0) (hm : m ≠ 0) (hc : (t.extract ((cutP t).2.1 - 1) (cutP t).2.1).data.toList = [44]) :
  Calls Tryz.prog 136 #[.string t, .int .i64 d, .int .i64 m] w (GetPost (.ok ⟨2, 0, (cutP t).1, .nil, (cutP t).2.1, 1⟩) w) := by
 have C := Lib.hid (cut_p t hs)
 have hbd := cutP_bd t h0
 rw [← ByteArray.toList_eq] at hc
 have N := Lib.hid (clone_p (cutP t).1 hbd.2.2.1)
 generalize cutP t = r at *
 obtain ⟨x, k, e⟩ := r
 simp only at *
 subst h0
 obtain ⟨k1, k2, k3, _⟩ := hbd
 have b0 : (d == 0) = false := by rw [beq_eq_false_iff_ne]; exact hd
 have bm : (m == 0) = false := by rw [beq_eq_false_iff_ne]; exact hm
 have k1' : (1 : Int) ≤ k := by omega
 have k2' : (k : Int) ≤ t.size := by omega
 have k4 : ((k : Int) - 1).toNat = k - 1 := by omega
 have HB0 : Hid (Below w.heap.size w (w.alloc (.cells #[.int .i64 0, .int .i64 0, .string ⟨#[]⟩, .slice none 0 0, .int .i64 0, .int .i64 0] 178))) := Lib.hid ((Below.refl _ _).alloc (Nat.le_refl _) _)
 clear hd hm
 go_enter Tryz.func136, Tryz.ntmps136
 go_wp2_with fail
 refine (C.out _).mono ?_
 rintro _ w1 ⟨rfl, rfl⟩
 go_wp2_with fail
 refine (N.out _).mono ?_
 rintro _ w2 ⟨rfl, hb2⟩
 have c0 : w2.cell? ⟨w.heap.size, 0, none⟩ = some (.int .i64 0) := by rw [hb2.cell (by simp)]; go_simp
 have z0 : w2.frozen? ⟨w.heap.size, 0, none⟩ = false := by rw [hb2.frozen (by simp)]; go_simp
 have c1 : w2.cell? ⟨w.heap.size, 1, none⟩ = some (.int .i64 0) := by rw [hb2.cell (by simp)]; go_simp
 have z1 : w2.frozen? ⟨w.heap.size, 1, none⟩ = false := by rw [hb2.frozen (by simp)]; go_simp
 have c2 : w2.cell? ⟨w.heap.size, 2, none⟩ = some (.string ⟨#[]⟩) := by rw [hb2.cell (by simp)]; go_simp
 have z2 : w2.frozen? ⟨w.heap.size, 2, none⟩ = false := by rw [hb2.frozen (by simp)]; go_simp
 have c3 : w2.cell? ⟨w.heap.size, 3, none⟩ = some (.slice none 0 0) := by rw [hb2.cell (by simp)]; go_simp
 have z3 : w2.frozen? ⟨w.heap.size, 3, none⟩ = false := by rw [hb2.frozen (by simp)]; go_simp
 have c4 : w2.cell? ⟨w.heap.size, 4, none⟩ = some (.int .i64 0) := by rw [hb2.cell (by simp)]; go_simp
 have z4 : w2.frozen? ⟨w.heap.size, 4, none⟩ = false := by rw [hb2.frozen (by simp)]; go_simp
 have c5 : w2.cell? ⟨w.heap.size, 5, none⟩ = some (.int .i64 0) := by rw [hb2.cell (by simp)]; go_simp
 have z5 : w2.frozen? ⟨w.heap.size, 5, none⟩ = false := by rw [hb2.frozen (by simp)]; go_simp
 have HB2 := Lib.hid (HB0.out.trans (hb2.mono HB0.out.size))
 clear hb2
 go_wp2_with fail
 exact bodyPost_ret (v := .tuple #[.agg #[.int .i64 2, .int .i64 0, .string x, .slice none 0 0, .int .i64 k, .int .i64 1], .int .i64 0]) (by simp [results, Tryz.results136, go_sem, c0, c1, c2, c3, c4, c5]) rfl ⟨((((((HB2.out.setCell (by simp) _).setCell (by simp) _).setCell (by simp) _).setCell (by simp) _).setCell (by simp) _).setCell (by simp) _), none, 0, rfl, .inl rfl⟩
def ItemsQ (d : Nat) : Prop := ∀ (t : ByteArray) (m : Int) (w : World), t.size ≤ 9999999 → 0 ≤ m → m ≤ 1000000 → LibAt w →
 Calls Tryz.prog 168 #[.string t, .int .i64 d, .int .i64 m] w (ItemsPost (itemsP (getP d) m (t.size + 1) t 0) w)
theorem get_lst (d : Int) (t : ByteArray) (m : Int) (w : World) (hs : t.size ≤ 9223372036854775807) (hlib : LibAt w) (h0 : (cutP t).2.2 = 0) (hd : d ≠ 0) (hm : m ≠ 0) (hm0 : 0 ≤ m) (hm1 : m ≤ 1000000) (hc : (t.extract ((cutP t).2.1 - 1) (cutP t).2.1).data.toList = [93]) (dn : Nat) (hdn : d = (dn : Int) + 1) (hdm : dn ≤ 1000000) (hI : ItemsQ dn) :
  Calls Tryz.prog 136 #[.string t, .int .i64 d, .int .i64 m] w (GetPost (match itemsP (getP dn) (m - 1) ((cutP t).1.size + 1) (cutP t).1 0 with | some (l, z) => .ok ⟨3, 0, ⟨#[]⟩, l, (cutP t).2.1, 1 + z⟩ | none => .error 1) w) := by
 have C := Lib.hid (cut_p t hs)
 have hbd := cutP_bd t h0
 rw [← ByteArray.toList_eq] at hc
 have N := Lib.hid (fun w1 (h : Below w.heap.size w w1) => hI (cutP t).1 (m - 1) w1 hbd.2.2.1 (by omega) (by omega) (hlib.below h))
 have hbz := itemsP_bd (getP dn) (fun t m x hx hm => (getP_bd dn t m x hx hm).1) (m - 1) ((cutP t).1.size + 1) (cutP t).1 0
 generalize cutP t = r at *
 obtain ⟨x, k, e⟩ := r
 simp only at *
 subst h0
 obtain ⟨k1, k2, k3, _⟩ := hbd
 have b0 : (d == 0) = false := by rw [beq_eq_false_iff_ne]; exact hd
 have bm : (m == 0) = false := by rw [beq_eq_false_iff_ne]; exact hm
 have k1' : (1 : Int) ≤ k := by omega
 have k2' : (k : Int) ≤ t.size := by omega
 have k4 : ((k : Int) - 1).toNat = k - 1 := by omega
 have HB0 : Hid (Below w.heap.size w (w.alloc (.cells #[.int .i64 0, .int .i64 0, .string ⟨#[]⟩, .slice none 0 0, .int .i64 0, .int .i64 0] 178))) := Lib.hid ((Below.refl _ _).alloc (Nat.le_refl _) _)
 have e1 : (dn : Int) = d - 1 := by omega
 rw [e1] at N
 have hdl : d ≤ 1000001 := by omega
 have hdg : 1 ≤ d := by omega
 clear hd hlib hdn e1
 generalize itemsP (getP dn) (m - 1) (x.size + 1) x 0 = q at *
 unfold ItemsPost at N
 cases q with
 | none =>
  clear hbz
  go_enter Tryz.func136, Tryz.ntmps136
  go_wp2_with fail
  refine (C.out _).mono ?_
  rintro _ w1 ⟨rfl, rfl⟩
  go_wp2_with fail
  refine (N.out _ HB0.out).mono ?_
  rintro _ w2 ⟨hb2, rfl⟩
  have c0 : w2.cell? ⟨w.heap.size, 0, none⟩ = some (.int .i64 0) := by rw [hb2.cell (by simp)]; go_simp
  have z0 : w2.frozen? ⟨w.heap.size, 0, none⟩ = false := by rw [hb2.frozen (by simp)]; go_simp
  have c1 : w2.cell? ⟨w.heap.size, 1, none⟩ = some (.int .i64 0) := by rw [hb2.cell (by simp)]; go_simp
  have z1 : w2.frozen? ⟨w.heap.size, 1, none⟩ = false := by rw [hb2.frozen (by simp)]; go_simp
  have c2 : w2.cell? ⟨w.heap.size, 2, none⟩ = some (.string ⟨#[]⟩) := by rw [hb2.cell (by simp)]; go_simp
  have z2 : w2.frozen? ⟨w.heap.size, 2, none⟩ = false := by rw [hb2.frozen (by simp)]; go_simp
  have c3 : w2.cell? ⟨w.heap.size, 3, none⟩ = some (.slice none 0 0) := by rw [hb2.cell (by simp)]; go_simp
  have z3 : w2.frozen? ⟨w.heap.size, 3, none⟩ = false := by rw [hb2.frozen (by simp)]; go_simp
  have c4 : w2.cell? ⟨w.heap.size, 4, none⟩ = some (.int .i64 0) := by rw [hb2.cell (by simp)]; go_simp
  have z4 : w2.frozen? ⟨w.heap.size, 4, none⟩ = false := by rw [hb2.frozen (by simp)]; go_simp
  have c5 : w2.cell? ⟨w.heap.size, 5, none⟩ = some (.int .i64 0) := by rw [hb2.cell (by simp)]; go_simp
  have z5 : w2.frozen? ⟨w.heap.size, 5, none⟩ = false := by rw [hb2.frozen (by simp)]; go_simp
  have HB2 := Lib.hid (HB0.out.trans (hb2.mono HB0.out.size))
  clear hb2
  go_wp2_with fail
  exact bodyPost_ret (v := errV 1) (by simp [results, Tryz.results136, go_sem, errV, c0, c1, c2, c3, c4, c5]) rfl ⟨((((((HB2.out.setCell (by simp) _).setCell (by simp) _).setCell (by simp) _).setCell (by simp) _).setCell (by simp) _).setCell (by simp) _), rfl⟩
 | some lz =>
  obtain ⟨l, z⟩ := lz
  have hz := (hbz l z rfl (by omega)).2.1
  clear hbz
  go_enter Tryz.func136, Tryz.ntmps136
  go_wp2_with fail
  refine (C.out _).mono ?_
  rintro _ w1 ⟨rfl, rfl⟩
  go_wp2_with fail
  refine (N.out _ HB0.out).mono ?_
  rintro _ w2 ⟨hb2, ad, cap, rfl, hg⟩
  have c0 : w2.cell? ⟨w.heap.size, 0, none⟩ = some (.int .i64 0) := by rw [hb2.cell (by simp)]; go_simp
  have z0 : w2.frozen? ⟨w.heap.size, 0, none⟩ = false := by rw [hb2.frozen (by simp)]; go_simp
  have c1 : w2.cell? ⟨w.heap.size, 1, none⟩ = some (.int .i64 0) := by rw [hb2.cell (by simp)]; go_simp
  have z1 : w2.frozen? ⟨w.heap.size, 1, none⟩ = false := by rw [hb2.frozen (by simp)]; go_simp
  have c2 : w2.cell? ⟨w.heap.size, 2, none⟩ = some (.string ⟨#[]⟩) := by rw [hb2.cell (by simp)]; go_simp
  have z2 : w2.frozen? ⟨w.heap.size, 2, none⟩ = false := by rw [hb2.frozen (by simp)]; go_simp
  have c3 : w2.cell? ⟨w.heap.size, 3, none⟩ = some (.slice none 0 0) := by rw [hb2.cell (by simp)]; go_simp
  have z3 : w2.frozen? ⟨w.heap.size, 3, none⟩ = false := by rw [hb2.frozen (by simp)]; go_simp
  have c4 : w2.cell? ⟨w.heap.size, 4, none⟩ = some (.int .i64 0) := by rw [hb2.cell (by simp)]; go_simp
  have z4 : w2.frozen? ⟨w.heap.size, 4, none⟩ = false := by rw [hb2.frozen (by simp)]; go_simp
  have c5 : w2.cell? ⟨w.heap.size, 5, none⟩ = some (.int .i64 0) := by rw [hb2.cell (by simp)]; go_simp
  have z5 : w2.frozen? ⟨w.heap.size, 5, none⟩ = false := by rw [hb2.frozen (by simp)]; go_simp
  have HG := Lib.hid hg
  have HB2 := Lib.hid (HB0.out.trans (hb2.mono HB0.out.size))
  clear hb2 hg
  go_wp2_with fail
  refine bodyPost_ret (v := .tuple #[.agg #[.int .i64 3, .int .i64 0, .string ⟨#[]⟩, .slice ad l.len cap, .int .i64 k, .int .i64 (1 + (z : Int))], .int .i64 0]) (by simp [results, Tryz.results136, go_sem, c0, c1, c2, c3, c4, c5]) rfl ⟨((((((HB2.out.setCell (by simp) _).setCell (by simp) _).setCell (by simp) _).setCell (by simp) _).setCell (by simp) _).setCell (by simp) _), ad, cap, ?_, ?_⟩
  ·simp
  ·refine HG.out.to (fun b hb _ => ⟨by simp at hb; omega, ?_⟩)
   have hne : b ≠ w.heap.size := by simp at hb; omega
   rw [heap_setCell_other _ _ _ _ hne, heap_setCell_other _ _ _ _ hne, heap_setCell_other _ _ _ _ hne, heap_setCell_other _ _ _ _ hne, heap_setCell_other _ _ _ _ hne, heap_setCell_other _ _ _ _ hne]
theorem get_oth (d : Int) (t : ByteArray) (m : Int) (w : World) (hs : t.size ≤ 9223372036854775807) (h0 : (cutP t).2.2 = 0) (hd : d ≠ 0) (hm : m ≠ 0) (c : UInt8) (hc : (t.extract ((cutP t).2.1 - 1) (cutP t).2.1).data.toList = [c]) (n1 : ¬ c = 35) (n2 : ¬ c = 44) (n3 : ¬ c = 93) :
  Calls Tryz.prog 136 #[.string t, .int .i64 d, .int .i64 m] w (GetPost (.error 1) w) := by
 have C := Lib.hid (cut_p t hs)
 have hbd := cutP_bd t h0
 rw [← ByteArray.toList_eq] at hc
 generalize cutP t = r at *
 obtain ⟨x, k, e⟩ := r
 simp only at *
 subst h0
 obtain ⟨k1, k2, k3, _⟩ := hbd
 have b0 : (d == 0) = false := by rw [beq_eq_false_iff_ne]; exact hd
 have bm : (m == 0) = false := by rw [beq_eq_false_iff_ne]; exact hm
 have k1' : (1 : Int) ≤ k := by omega
 have k2' : (k : Int) ≤ t.size := by omega
 have k4 : ((k : Int) - 1).toNat = k - 1 := by omega
 have HB0 : Hid (Below w.heap.size w (w.alloc (.cells #[.int .i64 0, .int .i64 0, .string ⟨#[]⟩, .slice none 0 0, .int .i64 0, .int .i64 0] 178))) := Lib.hid ((Below.refl _ _).alloc (Nat.le_refl _) _)
 have q1 : ([c] == ([35] : List UInt8)) = false := by rw [beq_eq_false_iff_ne]; intro e; exact n1 (List.cons.inj e).1
 have q2 : ([c] == ([44] : List UInt8)) = false := by rw [beq_eq_false_iff_ne]; intro e; exact n2 (List.cons.inj e).1
 have q3 : ([c] == ([93] : List UInt8)) = false := by rw [beq_eq_false_iff_ne]; intro e; exact n3 (List.cons.inj e).1
 clear hd hm
 go_enter Tryz.func136, Tryz.ntmps136
 go_wp2_with fail
 refine (C.out _).mono ?_
 rintro _ w1 ⟨rfl, rfl⟩
 go_wp2_with fail
 exact bodyPost_ret (v := errV 1) (by simp [results, Tryz.results136, go_sem, errV]) rfl ⟨(Below.refl _ _).alloc (Nat.le_refl _) _, rfl⟩
theorem get_zero : GetQ 0 := by
 intro t m w hs hm0 hm1 hlib
 unfold getP
 by_cases h0 : (cutP t).2.2 = 0
 ·rw [if_pos h0]
  exact get_deep 0 t m w hs h0 (.inl rfl)
 ·rw [if_neg h0]
  exact get_cut 0 t m w hs h0
theorem get_succ (d : Nat) (hd : d ≤ 1000000) (h : GetQ d) : GetQ (d + 1) := by
 intro t m w hs hm0 hm1 hlib
 have hI : ItemsQ d := fun t m w hs hm0 hm1 hlib => items_q d h t m w hs hm0 hm1 hd hlib
 have hd0 : ((d + 1 : Nat) : Int) ≠ 0 := by omega
 unfold getP
 by_cases h0 : (cutP t).2.2 = 0
 ·rw [if_pos h0]
  by_cases hm : m = 0
  ·rw [if_pos hm]
   exact get_deep _ t m w hs h0 (.inr hm)
  ·rw [if_neg hm]
   have hb := cutP_bd t h0
   obtain ⟨c, hc⟩ := last_one t (cutP t).2.1 hb.1 hb.2.1
   simp only [hc]
   by_cases n1 : c = 35
   ·subst n1
    rw [if_pos rfl]
    exact get_num _ t m w hs hlib h0 hd0 hm hc
   ·rw [if_neg (fun e => n1 (List.cons.inj e).1)]
    by_cases n2 : c = 44
    ·subst n2
     rw [if_pos rfl]
     exact get_str _ t m w hs h0 hd0 hm hc
    ·rw [if_neg (fun e => n2 (List.cons.inj e).1)]
     by_cases n3 : c = 93
     ·subst n3
      rw [if_pos rfl]
      exact get_lst _ t m w hs hlib h0 hd0 hm hm0 hm1 hc d (by omega) hd hI
     ·rw [if_neg (fun e => n3 (List.cons.inj e).1)]
      exact get_oth _ t m w hs h0 hd0 hm c hc n1 n2 n3
 ·rw [if_neg h0]
  exact get_cut _ t m w hs h0
theorem get_q : ∀ d : Nat, d ≤ 1000 → GetQ d
 | 0, _ => get_zero
 | d + 1, h => get_succ d (by omega) (get_q d (by omega))
def PartZ (q : Nat) (k n : Int) (s : ByteArray) (ad : Option Addr) (len cap : Nat) (b : Int) (w : World) : Prop :=
 w.cell? ⟨q, 0, none⟩ = some (.int .i64 k) ∧ w.cell? ⟨q, 1, none⟩ = some (.int .i64 n) ∧ w.cell? ⟨q, 2, none⟩ = some (.string s) ∧ w.cell? ⟨q, 3, none⟩ = some (.slice ad len cap) ∧ w.cell? ⟨q, 4, none⟩ = some (.int .i64 b)
theorem Get_any (t : ByteArray) (w : World) (P : Int → Int → ByteArray → Option Addr → Nat → Nat → Int → Int → World → Prop)
  (hP : ∀ k n s ad len cap b e w1 w2, P k n s ad len cap b e w1 → (∀ j, j ≠ w.heap.size → j < w1.heap.size → w2.heap[j]? = w1.heap[j]?) → P k n s ad len cap b e w2)
  (H : Calls Tryz.prog 136 #[.string t, .int .i64 6, .int .i64 6000] (w.alloc (.cells #[.int .i64 0, .int .i64 0, .string ⟨#[]⟩, .slice none 0 0] 88)) fun e w' => Below (w.alloc (.cells #[.int .i64 0, .int .i64 0, .string ⟨#[]⟩, .slice none 0 0] 88)).heap.size (w.alloc (.cells #[.int .i64 0, .int .i64 0, .string ⟨#[]⟩, .slice none 0 0] 88)) w' ∧ ∃ k n s ad len cap b c er, e = .returned (.tuple #[.agg #[.int .i64 k, .int .i64 n, .string s, .slice ad len cap, .int .i64 b, .int .i64 c], .int .i64 er]) ∧ P k n s ad len cap b er w') :
  Calls Tryz.prog 86 #[.string t] w fun e w' => Below w.heap.size w w' ∧ ∃ k n s ad len cap b er, e = .returned (.tuple #[.agg #[.int .i64 k, .int .i64 n, .string s, .slice ad len cap], .int .i64 b, .int .i64 er]) ∧ P k n s ad len cap b er w' := by
 have HB0 : Hid (Below w.heap.size w (w.alloc (.cells #[.int .i64 0, .int .i64 0, .string ⟨#[]⟩, .slice none 0 0] 88))) := Lib.hid ((Below.refl _ _).alloc (Nat.le_refl _) _)
 have H' := Lib.hid H
 have HP := Lib.hid hP
 clear H hP
 go_enter Tryz.func86, Tryz.ntmps86
 go_wp2_with fail
 refine H'.out.mono ?_
 rintro _ w2 ⟨hb2, k, n, s, ad, len, cap, b, c, er, rfl, hp⟩
 have HPP := Lib.hid hp
 have HB2 := Lib.hid (HB0.out.trans (hb2.mono HB0.out.size))
 have hlt : w.heap.size < w2.heap.size := by have := hb2.size; simp at this; omega
 have c0 : w2.cell? ⟨w.heap.size, 0, none⟩ = some (.int .i64 0) := by rw [hb2.cell (by simp)]; go_simp
 have z0 : w2.frozen? ⟨w.heap.size, 0, none⟩ = false := by rw [hb2.frozen (by simp)]; go_simp
 have c1 : w2.cell? ⟨w.heap.size, 1, none⟩ = some (.int .i64 0) := by rw [hb2.cell (by simp)]; go_simp
 have z1 : w2.frozen? ⟨w.heap.size, 1, none⟩ = false := by rw [hb2.frozen (by simp)]; go_simp
 have c2 : w2.cell? ⟨w.heap.size, 2, none⟩ = some (.string ⟨#[]⟩) := by rw [hb2.cell (by simp)]; go_simp
 have z2 : w2.frozen? ⟨w.heap.size, 2, none⟩ = false := by rw [hb2.frozen (by simp)]; go_simp
 have c3 : w2.cell? ⟨w.heap.size, 3, none⟩ = some (.slice none 0 0) := by rw [hb2.cell (by simp)]; go_simp
 have z3 : w2.frozen? ⟨w.heap.size, 3, none⟩ = false := by rw [hb2.frozen (by simp)]; go_simp
 clear hb2 hp
 go_wp2_with fail
 have hS : PartZ w2.heap.size k n s ad len cap b (World.drew (w2.alloc (.cells #[.int .i64 k, .int .i64 n, .string s, .slice ad len cap, .int .i64 b, .int .i64 c] 178))) := by
  refine ⟨?_, ?_, ?_, ?_, ?_⟩ <;> go_simp
 have hne : ¬ w2.heap.size = w.heap.size := by omega
 have hne' : ¬ w.heap.size = w2.heap.size := by omega
 refine wp_region_held (S := PartZ w2.heap.size k n s ad len cap b) (by kernel_rfl) ?_
 change wpAnyH _ _ _ _ _ _ _ _ (World.drew _)
 refine tk 0 (.pointer (some ⟨w2.heap.size, 0, none⟩)) rfl ?_ hS ?_
 ·intro w' ⟨s0, s1, s2, s3, s4⟩; go_simp
 refine tk 1 (.agg #[.int .i64 k, .int .i64 n, .string s, .slice ad len cap]) rfl ?_ hS ?_
 ·intro w' ⟨s0, s1, s2, s3, s4⟩; go_simp
 refine tk 2 (.pointer (some ⟨w2.heap.size, 4, none⟩)) rfl ?_ hS ?_
 ·intro w' ⟨s0, s1, s2, s3, s4⟩; go_simp
 refine tk 3 (.int .i64 b) rfl ?_ hS ?_
 ·intro w' ⟨s0, s1, s2, s3, s4⟩; go_simp
 refine tk 4 (.int .i64 er) rfl ?_ hS ?_
 ·intro w' ⟨s0, s1, s2, s3, s4⟩; go_simp
 refine wpAnyH_ready (rs := [5]) (by kernel_rfl) (by simp) ?_
 refine AllReadyH.cons rfl (fun K hK => ?_) AllReadyH.nil
 go_simp
 refine hK.out _ _ ?_ (fun hS1 => ?_)
 ·clear hS
  refine ⟨?_, ?_, ?_, ?_, ?_⟩ <;> go_simp
 clear hK hS
 refine wpAnyH_ready (rs := [6]) (by kernel_rfl) (by simp) ?_
 refine AllReadyH.cons rfl (fun K hK => ?_) AllReadyH.nil
 go_simp
 refine hK.out _ _ hS1 (fun _ => ?_)
 clear hK
 refine wpAnyH_ready (rs := [7]) (by kernel_rfl) (by simp) ?_
 refine AllReadyH.cons rfl (fun K hK => ?_) AllReadyH.nil
 go_simp
 refine hK.out _ _ hS1 (fun _ => ?_)
 clear hK
 refine wpAnyH_done (by kernel_rfl) ?_ _
 go_wp2_with fail
 have d0 : ((((((w2.setCell ⟨w.heap.size, 0, none⟩ (.int .i64 k)).setCell ⟨w.heap.size, 1, none⟩ (.int .i64 n)).setCell ⟨w.heap.size, 2, none⟩ (.string s)).setCell ⟨w.heap.size, 3, none⟩ (.slice ad len cap)).alloc (.cells #[.int .i64 k, .int .i64 n, .string s, .slice ad len cap, .int .i64 b, .int .i64 c] 178)).drew).cell? ⟨w.heap.size, 0, none⟩ = some (.int .i64 k) := by go_simp
 have d1 : ((((((w2.setCell ⟨w.heap.size, 0, none⟩ (.int .i64 k)).setCell ⟨w.heap.size, 1, none⟩ (.int .i64 n)).setCell ⟨w.heap.size, 2, none⟩ (.string s)).setCell ⟨w.heap.size, 3, none⟩ (.slice ad len cap)).alloc (.cells #[.int .i64 k, .int .i64 n, .string s, .slice ad len cap, .int .i64 b, .int .i64 c] 178)).drew).cell? ⟨w.heap.size, 1, none⟩ = some (.int .i64 n) := by go_simp
 have d2 : ((((((w2.setCell ⟨w.heap.size, 0, none⟩ (.int .i64 k)).setCell ⟨w.heap.size, 1, none⟩ (.int .i64 n)).setCell ⟨w.heap.size, 2, none⟩ (.string s)).setCell ⟨w.heap.size, 3, none⟩ (.slice ad len cap)).alloc (.cells #[.int .i64 k, .int .i64 n, .string s, .slice ad len cap, .int .i64 b, .int .i64 c] 178)).drew).cell? ⟨w.heap.size, 2, none⟩ = some (.string s) := by go_simp
 have d3 : ((((((w2.setCell ⟨w.heap.size, 0, none⟩ (.int .i64 k)).setCell ⟨w.heap.size, 1, none⟩ (.int .i64 n)).setCell ⟨w.heap.size, 2, none⟩ (.string s)).setCell ⟨w.heap.size, 3, none⟩ (.slice ad len cap)).alloc (.cells #[.int .i64 k, .int .i64 n, .string s, .slice ad len cap, .int .i64 b, .int .i64 c] 178)).drew).cell? ⟨w.heap.size, 3, none⟩ = some (.slice ad len cap) := by go_simp
 refine bodyPost_ret (v := .tuple #[.agg #[.int .i64 k, .int .i64 n, .string s, .slice ad len cap], .int .i64 b, .int .i64 er]) (by simp [results, Tryz.results86, go_sem, d0, d1, d2, d3]) rfl ⟨(((((HB2.out.setCell (by simp) _).setCell (by simp) _).setCell (by simp) _).setCell (by simp) _).alloc (by simp; omega) _).drew, k, n, s, ad, len, cap, b, er, rfl, ?_⟩
 refine HP.out _ _ _ _ _ _ _ _ _ _ HPP.out (fun j hj hl => ?_)
 rw [show (∀ (x : World), x.drew.heap = x.heap) from fun _ => rfl, heap_alloc_old _ _ (by simpa using hl)]
 rw [heap_setCell_other _ _ _ _ hj, heap_setCell_other _ _ _ _ hj, heap_setCell_other _ _ _ _ hj, heap_setCell_other _ _ _ _ hj]
def GetV (r : Except Nat G) (w : World) (e : Ending) (w' : World) : Prop :=
 Below w.heap.size w w' ∧
 match r with
 | .error x => e = .returned (.tuple #[.agg #[.int .i64 0, .int .i64 0, .string ⟨#[]⟩, .slice none 0 0], .int .i64 0, .int .i64 x])
 | .ok x => ∃ ad cap, e = .returned (.tuple #[.agg #[.int .i64 x.k, .int .i64 x.n, .string x.s, .slice ad x.l.len cap], .int .i64 x.b, .int .i64 0]) ∧ RepG w' (fun b => w.heap.size ≤ b) ad x.l
def getR (t : ByteArray) : Except Nat G := getP 6 t 6000
theorem Get_p (t : ByteArray) (w : World) (hs : t.size ≤ 9223372036854775807) (hlib : LibAt w) :
  Calls Tryz.prog 86 #[.string t] w (GetV (getR t) w) := by
 have hb0 : Below w.heap.size w (w.alloc (.cells #[.int .i64 0, .int .i64 0, .string ⟨#[]⟩, .slice none 0 0] 88)) := (Below.refl _ _).alloc (Nat.le_refl _) _
 have H := get_q 6 (by decide) t 6000 (w.alloc (.cells #[.int .i64 0, .int .i64 0, .string ⟨#[]⟩, .slice none 0 0] 88)) hs (by decide) (by decide) (hlib.below hb0)
 unfold getR
 generalize getP 6 t 6000 = r at *
 unfold GetPost at H
 cases r with
 | error e =>
  refine (Get_any t w (fun k n s ad len cap b er _ => k = 0 ∧ n = 0 ∧ s = ⟨#[]⟩ ∧ ad = none ∧ len = 0 ∧ cap = 0 ∧ b = 0 ∧ er = (e : Int)) (fun _ _ _ _ _ _ _ _ _ _ h _ => h) (H.mono fun x w' ⟨h1, h2⟩ => ⟨h1, 0, 0, ⟨#[]⟩, none, 0, 0, 0, 0, e, h2, rfl, rfl, rfl, rfl, rfl, rfl, rfl, rfl⟩)).mono ?_
  rintro x w' ⟨h1, k, n, s, ad, len, cap, b, er, rfl, rfl, rfl, rfl, rfl, rfl, rfl, rfl, rfl⟩
  exact ⟨h1, rfl⟩
 | ok x =>
  refine (Get_any t w (fun k n s ad len cap b er w' => k = x.k ∧ n = x.n ∧ s = x.s ∧ len = x.l.len ∧ b = (x.b : Int) ∧ er = 0 ∧ RepG w' (fun b => w.heap.size < b) ad x.l) (fun _ _ _ _ _ _ _ _ _ _ h hh => ?_) (H.mono fun y w' ⟨h1, ad, cap, h2, h3⟩ => ⟨h1, x.k, x.n, x.s, ad, x.l.len, cap, x.b, x.c, 0, h2, rfl, rfl, rfl, rfl, rfl, rfl, h3.to (fun b hb _ => ⟨by simp at hb; omega, rfl⟩)⟩)).mono ?_
  ·obtain ⟨h1, h2, h3, h4, h5, h6, h7⟩ := h
   exact ⟨h1, h2, h3, h4, h5, h6, h7.to (fun b hb hl => ⟨hb, hh b (by omega) hl⟩)⟩
  ·rintro y w' ⟨h1, k, n, s, ad, len, cap, b, er, rfl, rfl, rfl, rfl, rfl, rfl, rfl, hg⟩
   exact ⟨h1, ad, cap, rfl, hg.to (fun b hb _ => ⟨by omega, rfl⟩)⟩
theorem nd_le : ∀ (d u : Nat), 1 ≤ d → u < 10 ^ d → Lib.nDigits u ≤ d
 | 0, _, h, _ => by omega
 | d + 1, u, _, h => by
  by_cases h0 : u < 10
  ·rw [Lib.nDigits_small h0]; omega
  ·rw [Lib.nDigits_big h0]
   rw [Nat.pow_succ] at h
   by_cases hd : d = 0
   ·subst hd; simp at h; omega
   ·have := nd_le d (u / 10) (by omega) (by omega)
    omega
theorem dig_toNat (d : Nat) (h : d < 10) : (UInt8.ofNat (48 + d)).toNat = 48 + d := by
 simp only [UInt8.toNat_ofNat']
 omega
theorem lenP_dig (l : List UInt8) : ∀ (u : Nat), u < 10000000 → lenP 0 0 (Lib.decDigits u ++ l) = lenP u (Lib.nDigits u) l := by
 intro u
 induction u using Nat.strongRecOn generalizing l with
 | _ u ih =>
  intro hu
  by_cases h : u < 10
  ·rw [Lib.decDigits, dif_pos h, Lib.nDigits_small h]
   show lenP 0 0 (UInt8.ofNat (48 + u) :: l) = _
   have hd := dig_toNat u h
   rw [lenP, if_pos (by omega), if_neg (by omega), hd]
   congr 1
   omega
  ·rw [Lib.decDigits, dif_neg h, Lib.nDigits_big h, List.append_assoc, ih (u / 10) (by omega) _ (by omega)]
   show lenP (u / 10) (Lib.nDigits (u / 10)) (UInt8.ofNat (48 + u % 10) :: l) = _
   have hd := dig_toNat (u % 10) (by omega)
   have hn := nd_le 6 (u / 10) (by omega) (by omega)
   rw [lenP, if_pos (by omega), if_neg (by omega), hd]
   congr 1
   omega
theorem parse_dig (l : List UInt8) : ∀ (u : Nat), u < 18446744073709551616 → Lib.parseUint10 0 (Lib.decDigits u ++ l) = Lib.parseUint10 u l := by
 intro u
 induction u using Nat.strongRecOn generalizing l with
 | _ u ih =>
  intro hu
  by_cases h : u < 10
  ·rw [Lib.decDigits, dif_pos h]
   show Lib.parseUint10 0 (UInt8.ofNat (48 + u) :: l) = _
   have hd := dig_toNat u h
   rw [Lib.parseUint10, if_pos (by omega), if_neg (by omega), if_neg (by omega), hd]
   congr 1
   omega
  ·rw [Lib.decDigits, dif_neg h, List.append_assoc, ih (u / 10) (by omega) _ (by omega)]
   show Lib.parseUint10 (u / 10) (UInt8.ofNat (48 + u % 10) :: l) = _
   have hd := dig_toNat (u % 10) (by omega)
   rw [Lib.parseUint10, if_pos (by omega), if_neg (by omega), if_neg (by omega), hd]
   congr 1
   omega
theorem dig_all : ∀ (u : Nat), ∀ c ∈ Lib.decDigits u, 48 ≤ c.toNat ∧ c.toNat ≤ 57 := by
 intro u
 induction u using Nat.strongRecOn with
 | _ u ih =>
  intro c hc
  by_cases h : u < 10
  ·rw [Lib.decDigits, dif_pos h] at hc
   obtain rfl := List.mem_singleton.1 hc
   rw [dig_toNat u h]; omega
  ·rw [Lib.decDigits, dif_neg h] at hc
   rcases List.mem_append.1 hc with hc | hc
   ·exact ih (u / 10) (by omega) c hc
   ·obtain rfl := List.mem_singleton.1 hc
    rw [dig_toNat _ (by omega)]; omega
theorem dig_head : ∀ (u : Nat), ∃ c r, Lib.decDigits u = c :: r ∧ (1 ≤ u → 49 ≤ c.toNat) ∧ 48 ≤ c.toNat ∧ c.toNat ≤ 57 ∧ (u = 0 → c = 48 ∧ r = []) := by
 intro u
 induction u using Nat.strongRecOn with
 | _ u ih =>
  by_cases h : u < 10
  ·refine ⟨UInt8.ofNat (48 + u), [], by rw [Lib.decDigits, dif_pos h], ?_, ?_, ?_, ?_⟩
   ·intro h1; rw [dig_toNat u h]; omega
   ·rw [dig_toNat u h]; omega
   ·rw [dig_toNat u h]; omega
   ·rintro rfl; exact ⟨rfl, rfl⟩
  ·obtain ⟨c, r, h1, h2, h3, h4, _⟩ := ih (u / 10) (by omega)
   refine ⟨c, r ++ [UInt8.ofNat (48 + u % 10)], by rw [Lib.decDigits, dif_neg h, h1]; rfl, fun _ => h2 (by omega), h3, h4, fun h0 => by omega⟩
theorem itoa_form (v : Int) : (∃ u : Nat, v = u ∧ Lib.itoa v = Lib.decDigits u) ∨ (∃ u : Nat, 1 ≤ u ∧ v = -(u : Int) ∧ Lib.itoa v = 45 :: Lib.decDigits u) := by
 by_cases h : v < 0
 ·refine .inr ⟨v.natAbs, by omega, by omega, ?_⟩
  unfold Lib.itoa; rw [if_pos h]
 ·refine .inl ⟨v.toNat, by omega, ?_⟩
  unfold Lib.itoa; rw [if_neg h]
theorem atoi_itoa (v : Int) (h0 : -9223372036854775808 ≤ v) (h1 : v ≤ 9223372036854775807) : Lib.atoiAll (Lib.itoa v) = .ok v := by
 rcases itoa_form v with ⟨u, rfl, hu⟩ | ⟨u, h, rfl, hu⟩
 ·rw [hu]
  obtain ⟨c, r, hc, _, hc1, hc2, _⟩ := dig_head u
  have hp : Lib.parseMag (Lib.decDigits u) = .ok u := by
   unfold Lib.parseMag
   rw [if_neg (by rw [hc]; simp)]
   have := parse_dig [] u (by omega)
   rw [List.append_nil] at this
   rw [this]; rfl
  rw [hc] at hp ⊢
  unfold Lib.atoiAll
  simp only
  rw [if_neg (by omega), hp]
  simp only
  rw [if_neg (by omega), if_neg (by omega), if_neg (by omega)]
 ·rw [hu]
  obtain ⟨c, r, hc, _, hc1, hc2, _⟩ := dig_head u
  have hp : Lib.parseMag (Lib.decDigits u) = .ok u := by
   unfold Lib.parseMag
   rw [if_neg (by rw [hc]; simp)]
   have := parse_dig [] u (by omega)
   rw [List.append_nil] at this
   rw [this]; rfl
  unfold Lib.atoiAll
  simp only
  rw [if_pos (.inr (by decide)), hp]
  simp only
  rw [if_neg (fun h => h.1 (by decide)), if_neg (by omega), if_pos (by decide)]
theorem decS_list (v : Int) : (decS v).data.toList = Lib.itoa v := by
 unfold decS
 rw [List.toList_toArray]
theorem numP_dec (v : Int) (h0 : -9223372036854775808 ≤ v) (h1 : v ≤ 9223372036854775807) : numP (decS v) = some v := by
 unfold numP
 rw [decS_list, Lib.parseIntB_64, atoi_itoa v h0 h1]
 simp only [if_true]
theorem numP_inv {t : ByteArray} {v : Int} (h : numP t = some v) : t = decS v ∧ -9223372036854775808 ≤ v ∧ v ≤ 9223372036854775807 := by
 unfold numP at h
 split at h
 ·rename_i v' hp
  split at h
  ·rename_i he
   cases h
   exact ⟨he.symm, parse_range hp⟩
  ·cases h
 ·cases h
theorem frame_list (t e : ByteArray) (h : t.size ≤ 9999999) : (frameS t e).data.toList = Lib.decDigits t.size ++ 58 :: (t.data.toList ++ e.data.toList) := by
 unfold frameS
 rw [if_pos h]
 simp only [ByteArray.data_append, Array.toList_append, decS_list]
 rw [Lib.itoa_nonneg]
 simp
theorem frameS_len (t e : ByteArray) (h : t.size ≤ 9999999) : (frameS t e).size = Lib.nDigits t.size + 1 + t.size + e.size := by
 show (frameS t e).data.size = _
 rw [← Array.length_toList, frame_list t e h]
 simp only [List.length_append, List.length_cons, Lib.decDigits_length, Array.length_toList]
 show _ + (t.size + e.size + 1) = _
 omega
theorem cut_frame (t e r : ByteArray) (h : t.size ≤ 9999999) (he : e.size = 1) :
  cutP (frameS t e ++ r) = (t, (frameS t e).size, 0) ∧ ((frameS t e ++ r).extract ((frameS t e).size - 1) (frameS t e).size).data.toList = e.data.toList := by
 have hL : (frameS t e ++ r).data.toList = Lib.decDigits t.size ++ 58 :: (t.data.toList ++ (e.data.toList ++ r.data.toList)) := by
  rw [ByteArray.data_append, Array.toList_append, frame_list t e h]
  simp
 have hsz := frameS_len t e h
 have hsz2 : (frameS t e ++ r).size = (frameS t e).size + r.size := ByteArray.size_append
 have hd : (Lib.decDigits t.size).length = Lib.nDigits t.size := Lib.decDigits_length _
 have hp := Lib.nDigits_pos t.size
 have hlen : lenP 0 0 (frameS t e ++ r).data.toList = (t.size, Lib.nDigits t.size + 1, 0) := by
  rw [hL, lenP_dig _ _ (by omega), lenP, if_neg (by decide), if_neg]
  rintro (h0 | h0)
  ·omega
  ·exact h0 (by decide)
 constructor
 ·unfold cutP
  rw [hlen]
  simp only [if_true]
  rw [if_neg (by omega)]
  have h1 : (frameS t e ++ r).extract (Lib.nDigits t.size + 1) (Lib.nDigits t.size + 1 + t.size) = t := by
   apply ByteArray.ext
   apply Array.ext'
   rw [Lib.extract_data, hL]
   rw [show Lib.nDigits t.size + 1 = (Lib.decDigits t.size ++ [58]).length by simp [hd]]
   rw [show Lib.decDigits t.size ++ 58 :: (t.data.toList ++ (e.data.toList ++ r.data.toList)) = (Lib.decDigits t.size ++ [58]) ++ (t.data.toList ++ (e.data.toList ++ r.data.toList)) by simp]
   rw [List.drop_left, Nat.add_sub_cancel_left]
   rw [show t.size = t.data.toList.length from rfl, List.take_left]
  rw [h1]
  congr 2
  omega
 ·rw [Lib.extract_data, hL]
  rw [show (frameS t e).size - 1 = ((Lib.decDigits t.size ++ [58]) ++ t.data.toList).length by
   simp only [List.length_append, hd, List.length_singleton]
   show _ = _ + 1 + t.size
   omega]
  rw [show Lib.decDigits t.size ++ 58 :: (t.data.toList ++ (e.data.toList ++ r.data.toList)) = ((Lib.decDigits t.size ++ [58]) ++ t.data.toList) ++ (e.data.toList ++ r.data.toList) by simp]
  have hx : (frameS t e).size - ((Lib.decDigits t.size ++ [58]) ++ t.data.toList).length = e.data.toList.length := by
   simp only [List.length_append, hd, List.length_singleton]
   show (frameS t e).size - (Lib.nDigits t.size + 1 + t.size) = e.size
   omega
  rw [List.drop_left, hx, List.take_left]
theorem getP_num (d : Nat) (m : Int) (hm : ¬ m = 0) (t r : ByteArray) (h : t.size ≤ 9999999) : getP (d + 1) (frameS t ⟨#[35]⟩ ++ r) m = (match numP t with | some v => .ok ⟨1, v, ⟨#[]⟩, .nil, (frameS t ⟨#[35]⟩).size, 1⟩ | none => .error 1) := by
 obtain ⟨h1, h2⟩ := cut_frame t ⟨#[35]⟩ r h rfl
 unfold getP
 rw [h1]
 simp only [if_true, if_neg hm]
 rw [if_pos h2]
 all_goals (cases numP t <;> rfl)
theorem getP_str (d : Nat) (m : Int) (hm : ¬ m = 0) (t r : ByteArray) (h : t.size ≤ 9999999) : getP (d + 1) (frameS t ⟨#[44]⟩ ++ r) m = .ok ⟨2, 0, t, .nil, (frameS t ⟨#[44]⟩).size, 1⟩ := by
 obtain ⟨h1, h2⟩ := cut_frame t ⟨#[44]⟩ r h rfl
 unfold getP
 rw [h1]
 simp only [if_true, if_neg hm]
 rw [if_neg (by rw [h2]; decide), if_pos h2]
def allR (t : ByteArray) : Except Nat G := match getR t with | .ok x => if x.b = t.size then .ok x else .error 1 | .error _ => .error 1
theorem append_none (t : ByteArray) : t ++ ⟨#[]⟩ = t := by
 apply ByteArray.ext
 rw [ByteArray.data_append]
 simp
end Go.Proofs.YtlpgphiccjkenaaGreatDoor
