/-
  Contracts of the program, and what they rest on.
-/
import Derived.Laws.Rows
import Derived.Test.YtaacdggjkfmehaaGreatDoorRRosL
import Derived.Test.YtaacdggjkfmehaaGreatDoorRChJ
import Derived.Test.YtaacdggjkfmehaaGreatDoorChP
import Derived.Test.YtaacdggjkfmehaaGreatDoorChO
import Derived.Test.YtaacdggjkfmehaaGreatDoorJnP
namespace Go.Proofs.YtaacdggjkfmehaaGreatDoor
open Go.RowKit Go.Maps Go.Proofs.MapD Go.Proofs.Chest
theorem jnB_snoc (now m : Int) : ∀ (l : List Int) (s : Cs), jnB now s (l ++ [m]) = (stepS (jnB now s l) 1 m 0 (jnB now s l).r.ep now).1
  | [], _ => rfl
  | _ :: l, _ => jnB_snoc now m l _
theorem take_more {l : List Int} {k : Nat} {m : Int} (h : l[k]? = some m) : l.take (k + 1) = l.take k ++ [m] := by
  rw [List.take_add_one, h]
  rfl
theorem has_more (l : List Int) (k : Nat) (m n : Int) (h : l[k]? = some m) : hasI (l.take (k + 1)) n = (hasI (l.take k) n || (m == n)) := by
  rw [take_more h, Bool.eq_iff_iff, Bool.or_eq_true, has_mem, has_mem, List.mem_append, List.mem_singleton, beq_iff_eq]
  exact or_congr Iff.rfl ⟨Eq.symm, Eq.symm⟩
theorem iown_one (w : World) (x : Int) : IOwn (w.alloc (.cells #[.int .i64 x] 3)) w.heap.size (.slice (some ⟨w.heap.size, 0, none⟩) 1 1) [x] :=
  ⟨rfl, .inr ⟨w.heap.size, 1, #[.int .i64 x], rfl, Nat.le_refl _, heap_alloc_new w _, Nat.le_refl _, by unfold maxLen; omega, rfl, rfl⟩⟩
theorem IOwn.get {w : World} {B b n cap k : Nat} {l : List Int} {m : Int} (h : IOwn w B (.slice (Option.some ⟨b, 0, none⟩) n cap) l) (hk : l[k]? = Option.some m) : w.cell? ⟨b, k, none⟩ = Option.some (.int .i64 m) := by
  rcases h.at with ⟨h1, _⟩ | ⟨g, o, c, h1, _, _, h3, h4⟩
  · cases h1
  · injection h1 with h1 _ _
    injection h1 with h1
    injection h1 with e1 e2 _
    subst e1 e2
    simpa using h4 k m hk
section
variable {w0 w W3 : World} {x j c R : Nat} {s : Cs} {L : List It}
theorem Sp.ioStep {l : List Int} {v v' : Value} {z : Int} {c1 : Obj} (h : Sp w0 w (Go.Proofs.YtaacdggjkfmehaaGreatDoor.io v l :: L)) (hown : W3.ownsRow 0 3 1 v' (l.length + 1) (icells l ++ icells [z])) (hgrow : (w.alloc c1).grownBy W3 v.ownBlock)
    (hloc : v'.ownBlock = v.ownBlock ∨ v'.ownBlock = some (w.alloc c1).heap.size) : Sp w0 W3 (Go.Proofs.YtaacdggjkfmehaaGreatDoor.io v' (l ++ [z]) :: L) := by
  have h1 := h.below ((Below.refl w.heap.size w).alloc (Nat.le_refl _) c1)
  obtain ⟨F, ⟨_, e⟩, _, kk⟩ := h1.turn
  refine kk (Go.Proofs.YtaacdggjkfmehaaGreatDoor.io v' (l ++ [z])) W3 ⟨v'.ownBlock.toList, ⟨?_, rfl⟩, fun k hk => ?_, (Only.refl F _).grown hgrow (fun k hk => .inl (by rw [e, hk]; simp))⟩
  · rw [← icells_append] at hown
    unfold IOwn
    rw [List.length_append]
    exact hown
  · have hk : v'.ownBlock = some k := by simpa using hk
    rcases hloc with h2 | h2
    · exact .inl (by rw [e, ← h2, hk]; simp)
    · rw [h2] at hk
      exact .inr (Nat.le_of_eq (Option.some.inj hk))
theorem CK.ioStep {l : List Int} {v v' : Value} {z : Int} {c1 : Obj} (h : CK w0 w x j c R s (Go.Proofs.YtaacdggjkfmehaaGreatDoor.io v l :: L)) (hown : W3.ownsRow 0 3 1 v' (l.length + 1) (icells l ++ icells [z])) (hgrow : (w.alloc c1).grownBy W3 v.ownBlock)
    (hloc : v'.ownBlock = v.ownBlock ∨ v'.ownBlock = some (w.alloc c1).heap.size) : CK w0 W3 x j c R s (Go.Proofs.YtaacdggjkfmehaaGreatDoor.io v' (l ++ [z]) :: L) := by
  obtain ⟨a, a', bb, rs, hg, hsp⟩ := h
  exact ⟨a, a', bb, rs, hg, (hsp.rot.ioStep hown hgrow hloc).perm (List.perm_middle (l₁ := [cx x j a a' s, jc c j (jst R bb rs) (jjr bb rs)])).symm⟩
theorem IOwn.snoc {B : Nat} {v : Value} {l : List Int} {z : Int} (h : IOwn w B v (l ++ [z])) : ∃ b cap, v = .slice (Option.some ⟨b, 0, none⟩) (l ++ [z]).length cap := by
  obtain ⟨ad, cap, rfl⟩ := h.shape
  cases l with
  | nil =>
    obtain ⟨b, rfl⟩ := IOwn.some h
    exact ⟨b, cap, rfl⟩
  | cons a r =>
    obtain ⟨b, rfl⟩ := IOwn.some h
    exact ⟨b, cap, rfl⟩
theorem CK.rxNew (h : CK w0 w x j c R s L) (e n : Int) (v : Value) : CK w0 (w.alloc (.cells #[.int .i64 e, v, .int .i64 n] 24)) x j c R s (rx w.heap.size e v n :: L) := by
  obtain ⟨a, a', bb, rs, hg, hsp⟩ := h
  exact ⟨a, a', bb, rs, hg, (hsp.rxNew e n v).perm (List.perm_middle (l₁ := [cx x j a a' s, jc c j (jst R bb rs) (jjr bb rs)])).symm⟩
theorem CK.rxGet {b : Nat} {e n : Int} {v : Value} (h : CK w0 w x j c R s (rx b e v n :: L)) : RC w b e v n := by
  obtain ⟨F, h1, _⟩ := h.mem (.head _)
  exact RH.rc h1
theorem CK.roster (h : CK w0 w x j c R s L) :
    Calls Tryz.prog 17 #[.pointer (some ⟨x, 0, none⟩)] w fun y w' => ∃ ad cap, y = .returned (.agg #[.int .i64 s.r.ep, .slice ad s.r.l.length cap, .int .i64 s.r.nw]) ∧ CK w0 w' x j c R s L ∧ Below w.heap.size w w' := by
  obtain ⟨v, v', hc, hv, _, hl⟩ := h.chief
  refine (croster_p hc hv (by omega)).mono ?_
  rintro y w' ⟨ad, cap, rfl, _, hb⟩
  exact ⟨ad, cap, rfl, h.below hb, hb⟩
theorem CK.lost (h : CK w0 w x j c R s L) : Calls Tryz.prog 20 #[.pointer (some ⟨x, 0, none⟩)] w fun y w' => y = .returned (.bool s.lost) ∧ w = w' := by
  obtain ⟨v, v', hc, _⟩ := h.chief
  exact lost_p hc
end
def JHd (i : Nat) (s : Cs) (l : List Int) : Prop := JS s ⟨(l.length : Int), l, 0⟩ 0 (9 * (i : Int)) ∧ mayR ⟨(l.length : Int), l, 0⟩ = true ∧ ∃ b : Nat, l.length = b + 1
theorem JHd.start : JHd 0 (beginS ⟨1, [1], 0⟩ 0 0) [1] := by
  refine ⟨⟨rfl, rfl, rfl, rfl, rfl, fun m hm => ?_, by decide⟩, by kernel_rfl, 0, rfl⟩
  obtain rfl : m = 1 := by simpa using hm
  rfl
theorem JHd.mem {i : Nat} {s : Cs} {l : List Int} (h : JHd i s l) : (∀ m ∈ l, 1 ≤ m ∧ m ≤ 5) ∧ l.length ≤ 5 := by
  have h1 := (mayNs_iff l).1 (mayR_ns h.2.1).1
  exact ⟨h1.2.1, h1.1.2⟩
theorem JHd.rest {i : Nat} {s : Cs} {l : List Int} {n : Int} (h : JHd i s l) (hn : hasI l n = true) : JHd (i + 1) (jnRs l n (9 * (i : Int)) s 9) l := by
  refine ⟨?_, h.2⟩
  have h1 := jn_rest h.1 h.mem.1 ((has_mem l n).1 hn) 9
  rw [show 9 * ((i + 1 : Nat) : Int) = 9 * (i : Int) + ((9 : Nat) : Int) by omega]
  exact h1
theorem JHd.joins {i : Nat} {s : Cs} {l : List Int} {n : Int} (h : JHd i s l) (hn : hasI l n = false) (hn5 : 1 ≤ n ∧ n ≤ 5) : JS (jnRs l n (9 * (i : Int)) s 9) ⟨(l.length : Int) + 1, l ++ [n], n⟩ 0 (9 * ((i + 1 : Nat) : Int)) ∧ mayR ⟨(l.length : Int) + 1, l ++ [n], n⟩ = true := by
  have h5 := h.mem.2
  obtain ⟨h2, h3⟩ := add_yes h.2.1 (by omega) hn5 hn
  refine ⟨?_, h3⟩
  have h1 := jn_joins (r' := ⟨(l.length : Int) + 1, l ++ [n], n⟩) h.1 h.mem.1 ((has_mem' l n).1 hn) hn5 (by rw [h2]) rfl (show (0 : Int) < (l.length : Int) + 1 by omega)
  rw [show 9 * ((i + 1 : Nat) : Int) = 9 * (i : Int) + 9 by omega]
  exact h1
theorem JHd.full {i : Nat} {s : Cs} {l : List Int} {n : Int} (h : JS s ⟨(l.length : Int) + 1, l ++ [n], n⟩ 0 (9 * ((i + 1 : Nat) : Int))) (hm : mayR ⟨(l.length : Int) + 1, l ++ [n], n⟩ = true) (hn5 : 1 ≤ n ∧ n ≤ 5) (t : Int) : JHd (i + 1) (stepS s 11 n 0 ((l.length : Int) + 1) t).1 (l ++ [n]) := by
  have h1 := jn_full h hn5 rfl t
  dsimp only at h1
  have h2 := mayR_ns hm
  have e : (((l ++ [n]).length : Nat) : Int) = (l.length : Int) + 1 := by simp
  refine ⟨by rw [e]; exact h1, ?_, l.length, by simp⟩
  rw [e]
  refine mayR_of ?_ h2.1 rfl
  have h3 := ((mayNs_iff _).1 h2.1).1
  simp only [List.length_append, List.length_cons, List.length_nil] at h3
  omega
theorem jmod_five (n : Int) : ∃ k : Nat, (n.tmod 5 + 5).tmod 5 = (k : Int) ∧ k < 5 ∧ -5 < n.tmod 5 ∧ n.tmod 5 < 5 := by
  have g1 := Int.tmod_lt_of_pos n (show (0 : Int) < 5 by decide)
  have g2 := Int.lt_tmod_of_pos n (show (0 : Int) < 5 by decide)
  generalize n.tmod 5 = r at *
  have g3 := Int.tmod_lt_of_pos (r + 5) (show (0 : Int) < 5 by decide)
  have g4 := Int.tmod_nonneg 5 (show (0 : Int) ≤ r + 5 by omega)
  exact ⟨((r + 5).tmod 5).toNat, by omega, by omega, by omega, by omega⟩
set_option maxRecDepth 100000 in
set_option maxHeartbeats 16000000 in
theorem chiefJoins_walk (v0 : Value) (len : Nat) (D : Nat → Int) (ob off cap : Nat) (a0 : Option Addr) (hv0 : v0 = .slice a0 len cap) (ha0 : 0 < len → a0 = some ⟨ob, off, none⟩) (w : World) (hB : BegunTrue10) (hlib : LibAt w)
    (hlen : len ≤ 9223372036854775807) (hob : 0 < len → ob < w.heap.size) (hD : ∀ i, i < len → w.cell? ⟨ob, off + i, none⟩ = some (.int .i64 (D i))) :
    Calls Tryz.prog 4 #[v0] w fun e w' => e = .returned (.bool true) ∧ Below w.heap.size w w' := by
  subst hv0
  have HB := Lib.hid (hB w hlib)
  have HL := Lib.hid hlib
  have HD := Lib.hid hD
  have HA0 := Lib.hid ha0
  have HOB := Lib.hid hob
  clear hB hlib hD ha0 hob
  go_enter Tryz.func4, Tryz.ntmps4
  go_wp2_with fail
  refine HB.out.mono ?_
  rintro _ w1 ⟨rfl, hb1⟩
  have H1 := Lib.hid ((Sp.start w).below hb1)
  clear hb1 HB
  go_wp2_with fail
  refine (s_new 1048576 H1.out).mono ?_
  rintro _ w2 ⟨c, rfl, h2⟩
  rw [r_new] at h2
  have H2 := Lib.hid ((h2.ioNew ((Below.refl _ _).alloc (Nat.le_refl _) _) (iown_one w2 1)).swap)
  clear h2 H1
  go_wp2_with fail
  generalize w2.alloc _ = W2 at *
  refine (open_newo H2.out (by decide) (by kernel_rfl) HL.out 0).mono ?_
  rintro _ w3 ⟨x, j, rfl, h3⟩
  have H3 := Lib.hid (h3.dropI.ioNew ((Below.refl _ _).alloc (Nat.le_refl _) _) (iown_one w3 1))
  have HH3 := Lib.hid JHd.start
  clear h3 H2
  go_wp2_with fail
  generalize w3.alloc _ = W3 at *
  generalize w3.heap.size = B3 at *
  go_loopw [6, 7, 8] (fun v6 v7 v8 wr => ∃ (i lc b : Nat) (s : Cs) (l : List Int), v6 = .int .i64 (9 * (i : Int)) ∧ v7 = .slice (some ⟨b, 0, none⟩) l.length lc ∧ v8 = .int .i64 (i : Int) ∧ i ≤ len ∧ i ≤ 6 ∧ Hid (JHd i s l) ∧ Hid (CK w wr x j c 1048576 s [io (.slice (some ⟨b, 0, none⟩) l.length lc) l])) (fun _ _ v8 _ => len - (intOf v8).toNat)
  case atStart => exact ⟨0, 1, B3, _, [1], rfl, rfl, rfl, Nat.zero_le _, Nat.zero_le _, HH3, H3⟩
  case round =>
    obtain ⟨i, lc, b, s, l, rfl, rfl, rfl, hi, hi6, HH, HK⟩ := hrel
    clear H3 HH3
    have HLO := Lib.hid HK.out.lost
    have hlo : s.lost = false := HH.out.1.lost
    rw [hlo] at HLO
    clear hlo
    by_cases hil : i < len
    case neg =>
      go_wp2_with fail
      refine HLO.out.mono ?_
      rintro _ _ ⟨rfl, rfl⟩
      go_wp2_with fail
      go_ret
      exact ⟨rfl, HK.out.bl⟩
    by_cases hi5 : i < 6
    case neg =>
      go_wp2_with fail
      refine HLO.out.mono ?_
      rintro _ _ ⟨rfl, rfl⟩
      go_wp2_with fail
      go_ret
      exact ⟨rfl, HK.out.bl⟩
    clear HLO
    obtain rfl := HA0.out (by omega)
    have hoblt := HOB.out (by omega)
    have hop : wr.cell? ⟨ob, off + i, none⟩ = some (.int .i64 (D i)) := (HK.out.bl.cell (p := ⟨ob, off + i, none⟩) hoblt).trans (HD.out i hil)
    generalize D i = d at *
    obtain ⟨k5, hk5, hk5l, hk5a, hk5b⟩ := jmod_five d
    have hl5 := HH.out.mem.2
    obtain ⟨F0, ⟨ho0, _⟩⟩ := HK.out.mem (i := io (.slice (some ⟨b, 0, none⟩) l.length lc) l) (.head _)
    have HO0 := Lib.hid ho0
    clear ho0
    have hl5' : (l.length : Int) ≤ 5 := by omega
    go_wp2_with fail
    clear hop
    go_loop [10, 11] (fun v10 v11 => ∃ k : Nat, v10 = .bool (hasI (l.take k) (1 + (k5 : Int))) ∧ v11 = .int .i64 (k : Int) ∧ k ≤ l.length) (fun _ v11 => l.length - (intOf v11).toNat)
    case atStart => exact ⟨0, rfl, rfl, Nat.zero_le _⟩
    case round =>
      obtain ⟨k, rfl, rfl, hk⟩ := hrel
      by_cases hkl : k < l.length
      · obtain ⟨m, hm⟩ : ∃ m, l[k]? = some m := ⟨_, List.getElem?_eq_getElem hkl⟩
        have hcell := HO0.out.get hm
        have HMO := Lib.hid (has_more l k m (1 + (k5 : Int)) hm)
        clear hm
        cases hh : hasI (l.take k) (1 + (k5 : Int)) with
        | true =>
          rw [hh] at HMO
          have HMO2 : Hid (hasI (l.take (k + 1)) (1 + (k5 : Int)) = true) := Lib.hid HMO.out
          clear HMO hh
          go_wp2_with fail
          go_round
          case rel => exact ⟨k + 1, by rw [HMO2.out], by go_num, by omega⟩
          case measure => simp [intOf]; omega
        | false =>
          rw [hh] at HMO
          have HMO2 : Hid (hasI (l.take (k + 1)) (1 + (k5 : Int)) = (m == (1 + (k5 : Int)))) := Lib.hid (HMO.out.trans (Bool.false_or _))
          clear HMO hh
          go_wp2_with fail
          go_round
          case rel => exact ⟨k + 1, by rw [HMO2.out], by go_num, by omega⟩
          case measure => simp [intOf]; omega
      · obtain rfl : k = l.length := by omega
        rw [List.take_length]
        obtain ⟨n, hn⟩ : ∃ n : Int, n = 1 + (k5 : Int) := ⟨_, rfl⟩
        have hn5 : 1 ≤ n ∧ n ≤ 5 := by omega
        rw [← hn]
        have HN := Lib.hid hn5
        clear hn hn5 hk5 hk5l hk5a hk5b hkl hk
        clear HO0
        obtain ⟨bb, hbb⟩ : ∃ bb, hasI l n = bb := ⟨_, rfl⟩
        have HBB := Lib.hid hbb
        rw [hbb]
        clear hbb
        have hi9 : (9 : Int) * (i : Int) ≤ 54 := by omega
        go_wp2_with fail
        go_loopw [6, 12, 14, 73] (fun v6 v12 _ _ wr1 => ∃ q : Nat, v6 = .int .i64 (9 * (i : Int) + (q : Int)) ∧ v12 = .int .i64 (q : Int) ∧ q ≤ 9 ∧ Hid (CK w wr1 x j c 1048576 (jnRs l n (9 * (i : Int)) s q) [io (.slice (some ⟨b, 0, none⟩) l.length lc) l])) (fun _ v12 _ _ _ => 9 - (intOf v12).toNat)
        case atStart => exact ⟨0, by go_num, rfl, Nat.zero_le _, HK⟩
        case round =>
          obtain ⟨q, rfl, rfl, hq, HQ⟩ := hrel
          by_cases hq9 : q < 9
          · have HJR : Hid (jnRs l n (9 * (i : Int)) s (q + 1) = (stepS (jnB (9 * (i : Int) + (q : Int) + 1) (tickS (jnRs l n (9 * (i : Int)) s q) (9 * (i : Int) + (q : Int) + 1)) l) 1 n 0 0 (9 * (i : Int) + (q : Int) + 1)).1) := Lib.hid rfl
            obtain ⟨s9, hs9⟩ : ∃ s9, jnRs l n (9 * (i : Int)) s (q + 1) = s9 := ⟨_, rfl⟩
            have HJR2 := Lib.hid (hs9.symm.trans HJR.out)
            have HS9 := Lib.hid hs9
            clear hs9 HJR
            generalize jnRs l n (9 * (i : Int)) s q = s1 at *
            go_wp2_with fail
            refine (tick_p HQ.out (by decide) HL.out (9 * (i : Int) + (q : Int) + 1) (by omega) (by omega)).mono ?_
            rintro _ w6 ⟨rfl, h6⟩
            have H6 : Hid (CK w w6 x j c 1048576 (jnB (9 * (i : Int) + (q : Int) + 1) (tickS s1 (9 * (i : Int) + (q : Int) + 1)) (l.take 0)) [io (.slice (some ⟨b, 0, none⟩) l.length lc) l]) := Lib.hid h6
            clear h6 HQ
            generalize tickS s1 (9 * (i : Int) + (q : Int) + 1) = s2 at *
            go_wp2_with fail
            go_loopw [14, 73] (fun _ v73 wr2 => ∃ y : Nat, v73 = .int .i64 (y : Int) ∧ y ≤ l.length ∧ Hid (CK w wr2 x j c 1048576 (jnB (9 * (i : Int) + (q : Int) + 1) s2 (l.take y)) [io (.slice (some ⟨b, 0, none⟩) l.length lc) l])) (fun _ v73 _ => l.length - (intOf v73).toNat)
            case atStart => exact ⟨0, rfl, Nat.zero_le _, H6⟩
            case round =>
              obtain ⟨y, rfl, hy, HY⟩ := hrel
              clear H6
              by_cases hyl : y < l.length
              · obtain ⟨m, hm⟩ : ∃ m, l[y]? = some m := ⟨_, List.getElem?_eq_getElem hyl⟩
                obtain ⟨F1, ⟨ho1, _⟩⟩ := HY.out.mem (i := io (.slice (some ⟨b, 0, none⟩) l.length lc) l) (.head _)
                have hcell := ho1.get hm
                have HSN : Hid (jnB (9 * (i : Int) + (q : Int) + 1) s2 (l.take (y + 1)) = (stepS (jnB (9 * (i : Int) + (q : Int) + 1) s2 (l.take y)) 1 m 0 (jnB (9 * (i : Int) + (q : Int) + 1) s2 (l.take y)).r.ep (9 * (i : Int) + (q : Int) + 1)).1) := Lib.hid (by rw [take_more hm, jnB_snoc])
                clear ho1 hm
                obtain ⟨s4, hs4⟩ : ∃ s4, jnB (9 * (i : Int) + (q : Int) + 1) s2 (l.take (y + 1)) = s4 := ⟨_, rfl⟩
                have HSN2 := Lib.hid (hs4.symm.trans HSN.out)
                have HS4 := Lib.hid hs4
                clear hs4 HSN
                generalize jnB (9 * (i : Int) + (q : Int) + 1) s2 (l.take y) = s3 at *
                have HRO := Lib.hid HY.out.roster
                have f0 := field0
                go_wp2_with fail
                refine HRO.out.mono ?_
                rintro _ w7 ⟨a7, c7, rfl, h7, hb7⟩
                have H7 := Lib.hid h7
                clear h7 hb7 HRO HY hcell
                go_wp2_with fail
                refine (step_p H7.out (by decide) HL.out 1 m 0 s3.r.ep Wq.zero (9 * (i : Int) + (q : Int) + 1) (by omega) (by omega)).mono ?_
                rintro _ w8 ⟨u8, rfl, h8⟩
                have H8 : Hid (CK w w8 x j c 1048576 s4 [io (.slice (some ⟨b, 0, none⟩) l.length lc) l]) := Lib.hid (by rw [HSN2.out]; exact h8.ck)
                clear h8 H7 HSN2
                go_wp2_with fail
                go_roundw
                case rel => exact ⟨y + 1, by go_num, by omega, by rw [HS4.out]; exact H8⟩
                case measure => simp [intOf]; omega
              · obtain rfl : y = l.length := by omega
                rw [List.take_length] at HY
                go_wp2_with fail
                refine (step_p HY.out (by decide) HL.out 1 n 0 0 Wq.zero (9 * (i : Int) + (q : Int) + 1) (by omega) (by omega)).mono ?_
                rintro _ w8 ⟨u8, rfl, h8⟩
                have H8 : Hid (CK w w8 x j c 1048576 s9 [io (.slice (some ⟨b, 0, none⟩) l.length lc) l]) := Lib.hid (by rw [HJR2.out]; exact h8.ck)
                clear h8 HY HJR2
                go_wp2_with fail
                go_roundw
                case rel => exact ⟨q + 1, by go_num, by go_num, by omega, by rw [HS9.out]; exact H8⟩
                case measure => simp [intOf]; omega
          · obtain rfl : q = 9 := by omega
            clear HK
            cases bb with
            | true =>
              have HH9 := Lib.hid (HH.out.rest HBB.out)
              generalize jnRs l n (9 * (i : Int)) s 9 = s9 at *
              clear HH HBB
              go_wp2_with fail
              go_roundw
              case rel => exact ⟨i + 1, lc, b, s9, l, by go_num, rfl, by go_num, by omega, by omega, HH9, HQ⟩
              case measure => simp [intOf]; omega
            | false =>
              have HH9 := Lib.hid (HH.out.joins HBB.out HN.out)
              generalize jnRs l n (9 * (i : Int)) s 9 = s9 at *
              clear HH HBB
              have he : s9.r = ⟨(l.length : Int) + 1, l ++ [n], n⟩ := HH9.out.1.r
              have HRR := Lib.hid (fun (W : World) (s' : Cs) (L' : List It) (h : CK w W x j c 1048576 s' L') (hr : s'.r = ⟨(l.length : Int) + 1, l ++ [n], n⟩) => (by
                have h1 := h.roster
                rw [hr] at h1
                dsimp only at h1
                rw [show (l ++ [n]).length = l.length + 1 by simp] at h1
                exact h1 : Calls Tryz.prog 17 #[.pointer (some ⟨x, 0, none⟩)] W fun y w' => ∃ ad cap, y = .returned (.agg #[.int .i64 ((l.length : Int) + 1), .slice ad (l.length + 1) cap, .int .i64 n]) ∧ CK w w' x j c 1048576 s' L' ∧ Below W.heap.size W w'))
              have HE := Lib.hid he
              clear he
              have HR0 := Lib.hid (HRR.out _ s9 _ HQ.out HE.out)
              have f2 := field2
              go_wp2_with fail
              refine HR0.out.mono ?_
              rintro _ w7 ⟨a7, c7, rfl, h7, _⟩
              have H8 := Lib.hid (h7.rxNew ((l.length : Int) + 1) n (.slice a7 (l.length + 1) c7))
              clear h7 HR0 HQ
              have hE1 : (stepS s9 11 n 0 (l.length : Int) (9 * (i : Int) + 9)).1 = s9 := by
                have h := jn_early HH9.out.1 HN.out (9 * (i : Int) + 9)
                dsimp only at h
                rw [show (l.length : Int) + 1 - 1 = (l.length : Int) by omega] at h
                exact h
              have HE1 := Lib.hid hE1
              clear hE1
              obtain ⟨⟨p0, p1, p2⟩, _⟩ := H8.out.rxGet
              go_wp2_with fail
              generalize World.alloc _ _ = W8 at *
              generalize w7.heap.size = B7 at *
              refine (step_p H8.out (by decide) HL.out 11 n 0 (l.length : Int) Wq.zero (9 * (i : Int) + 9) (by omega) (by omega)).mono ?_
              rintro _ w9 ⟨u9, rfl, h9⟩
              have h9c := h9.ck
              rw [HE1.out] at h9c
              have H9 := Lib.hid h9c
              have HR1 := Lib.hid (HRR.out _ s9 _ h9c HE.out)
              clear h9 h9c H8 p0 p1 p2
              go_wp2_with fail
              refine HR1.out.mono ?_
              rintro _ w10 ⟨a10, c10, rfl, h10, _⟩
              have H10 := Lib.hid h10
              clear h10 HR1 H9
              obtain ⟨⟨p0, p1, p2⟩, _⟩ := H10.out.rxGet
              go_wp2_with fail
              have HH11 := Lib.hid (JHd.full HH9.out.1 HH9.out.2 HN.out (9 * (i : Int) + 9))
              refine (step_p H10.out (by decide) HL.out 11 n 0 ((l.length : Int) + 1) Wq.zero (9 * (i : Int) + 9) (by omega) (by omega)).mono ?_
              rintro _ w11 ⟨u11, rfl, h11⟩
              generalize (stepS s9 11 n 0 ((l.length : Int) + 1) (9 * (i : Int) + 9)).1 = s11 at *
              have H11 := Lib.hid h11.ck.dropI
              have h0 : s11.r.nw = 0 := by
                rw [HH11.out.1.r]
              have HR2 := H11.out.roster
              rw [h0] at HR2
              have HR3 := Lib.hid HR2
              clear h0 HR2 h11 H10 p0 p1 p2 HE
              go_wp2_with fail
              refine HR3.out.mono ?_
              rintro _ w12 ⟨a12, c12, rfl, h12, _⟩
              have H12 := Lib.hid h12
              clear h12 HR3 H11
              obtain ⟨i0, hii, hz0, hz1, hz2⟩ := int_info
              obtain ⟨F2, ⟨ho2, _⟩⟩ := H12.out.mem (i := io (.slice (some ⟨b, 0, none⟩) l.length lc) l) (.head _)
              have HOW : Hid ((w12.alloc (.cells #[.int .i64 n] 3)).ownsRow 0 3 1 (.slice (some ⟨b, 0, none⟩) l.length lc) l.length (icells l)) := Lib.hid (ho2.below ((Below.refl _ w12).alloc (Nat.le_refl _) _))
              have HNW : Hid (∀ j u, (icells [n])[j]? = some u → (w12.alloc (.cells #[.int .i64 n] 3)).cell? ((⟨w12.heap.size, 0, none⟩ : Addr).add j) = some u) := Lib.hid (World.news_of_block (B := w12.heap.size) (cs := #[.int .i64 n]) (t := 3) (fr := (0, 0)) (heap_alloc_new w12 _))
              clear ho2
              go_wp2_with (at_builtin; refine wpList_append_own_at _ rfl (.tmp 139) (.tmp 141) 22 rfl 0 3 i0 _ 1 8 Tryz.underlying22 hii hz0 hz1 hz2 rfl (by decide) (.slice (some ⟨b, 0, none⟩) l.length lc) l.length (icells l) rfl HOW.out ⟨w12.heap.size, 0, none⟩ 1 1 (icells [n]) rfl rfl HNW.out (icells_one [n]) (by unfold maxLen; omega) (by omega) (Nat.zero_le _) ?_)
              intro v' w13 hown hgrow _ hloc
              have h13 := H12.out.ioStep hown hgrow (by simpa using hloc)
              obtain ⟨F3, ⟨ho3, _⟩⟩ := h13.mem (i := io v' (l ++ [n])) (.head _)
              obtain ⟨b3, lc3, rfl⟩ := IOwn.snoc ho3
              have H13 := Lib.hid h13
              clear hown hgrow hloc h13 ho3 HOW HNW H12 hii hz0 hz1 hz2
              go_wp2_with fail
              go_roundw
              case rel => exact ⟨i + 1, lc3, b3, s11, l ++ [n], by go_num, rfl, by go_num, by omega, by omega, HH11, H13⟩
              case measure => simp [intOf]; omega
end Go.Proofs.YtaacdggjkfmehaaGreatDoor
