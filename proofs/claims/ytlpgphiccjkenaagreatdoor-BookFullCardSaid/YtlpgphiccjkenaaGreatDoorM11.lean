/-
 Contracts of the program, and what they rest on.
-/
import Derived.Test.YtlpgphiccjkenaaGreatDoorM09
import Derived.Test.YtlpgphiccjkenaaGreatDoorM10
import Derived.Shelf.RegionOpenPlain
import Derived.Deep.RegionLaw
import Derived.Lib.SliceRun
import Derived.Laws.Rows
import Derived.Test.YtlpgphiccjkenaaGreatDoorM03
import Derived.Shelf.Spec.SlicesInsertGrow
set_option maxRecDepth 100000
set_option maxHeartbeats 16000000
namespace Go.Proofs.YtlpgphiccjkenaaGreatDoor
open Go.RowKit Go.Proofs.Flo Go.Proofs.Cpl Go.Sort
def holdsE (l : List Ve) (cond : Int) (tag : ByteArray) : Bool :=
 if cond = 0 then true else if cond = 1 then !(nowE l).2 else if cond = 2 then (nowE l).2 && ((tagS (nowE l).1.body).toList == tag.toList) else false
theorem nowE_mem {l : List Ve} (h : (nowE l).2 = true) : (nowE l).1 ∈ l := by
 unfold nowE at h ⊢
 cases hl : l.getLast? with
 | none => rw [hl] at h; cases h
 | some v => exact List.mem_of_getLast? hl
theorem holds_p (key : ByteArray) (v : Value) (l : List Ve) (cond : Int) (tag : ByteArray) (w : World) (h : VsAt w v l) (hn : l.length ≤ 1000000) (hbd : ∀ x ∈ l, x.body.size ≤ 1000000) (ht : TzAt w) :
  Calls Tryz.prog 121 #[.agg #[.string key, v], .int .i64 cond, .string tag] w fun e w' => e = .returned (.bool (holdsE l cond tag)) ∧ Below w.heap.size w w' := by
 obtain ⟨ad, cap, rfl, _⟩ := h.shape
 have HB : Hid (Below w.heap.size w (w.alloc (.cells #[.string key, .slice ad l.length cap] 45))) := Lib.hid ((Below.refl _ w).alloc (Nat.le_refl _) _)
 have HN := Lib.hid (now_p key _ l _ (h.below HB.out) hn)
 have HT := Lib.hid ht
 unfold vtup at HN
 unfold holdsE
 have hmem := nowE_mem (l := l)
 clear h ht
 obtain ⟨x, b, hx⟩ : ∃ x b, nowE l = (x, b) := ⟨_, _, rfl⟩
 rw [hx] at HN hmem ⊢
 dsimp only at HN hmem ⊢
 clear hx
 by_cases c0 : cond = 0
 ·subst c0
  rw [if_pos rfl]
  go_enter Tryz.func121, Tryz.ntmps121
  go_wp2_with fail
  refine HN.out.mono ?_
  rintro _ w1 ⟨rfl, hb1⟩
  have HB1 := Lib.hid (HB.out.trans (hb1.mono HB.out.size))
  clear hb1
  go_wp2_with fail
  go_ret
  exact ⟨rfl, HB1.out.alloc HB1.out.size _⟩
 by_cases c1 : cond = 1
 ·subst c1
  rw [if_neg (by decide), if_pos rfl]
  cases b with
  | true =>
   go_enter Tryz.func121, Tryz.ntmps121
   go_wp2_with fail
   refine HN.out.mono ?_
   rintro _ w1 ⟨rfl, hb1⟩
   have HB1 := Lib.hid (HB.out.trans (hb1.mono HB.out.size))
   clear hb1
   go_wp2_with fail
   go_ret
   exact ⟨rfl, HB1.out.alloc HB1.out.size _⟩
  | false =>
   go_enter Tryz.func121, Tryz.ntmps121
   go_wp2_with fail
   refine HN.out.mono ?_
   rintro _ w1 ⟨rfl, hb1⟩
   have HB1 := Lib.hid (HB.out.trans (hb1.mono HB.out.size))
   clear hb1
   go_wp2_with fail
   go_ret
   exact ⟨rfl, HB1.out.alloc HB1.out.size _⟩
 by_cases c2 : cond = 2
 ·subst c2
  rw [if_neg (by decide), if_neg (by decide), if_pos rfl]
  cases b with
  | false =>
   rw [Bool.false_and]
   go_enter Tryz.func121, Tryz.ntmps121
   go_wp2_with fail
   refine HN.out.mono ?_
   rintro _ w1 ⟨rfl, hb1⟩
   have HB1 := Lib.hid (HB.out.trans (hb1.mono HB.out.size))
   clear hb1
   go_wp2_with fail
   go_ret
   exact ⟨rfl, HB1.out.alloc HB1.out.size _⟩
  | true =>
   rw [Bool.true_and]
   have hxb := hbd x (hmem rfl)
   have HTG := Lib.hid (fun W (h : TzAt W) => dtag_p x.body (by omega) W h)
   generalize tagS x.body = T at *
   go_enter Tryz.func121, Tryz.ntmps121
   go_wp2_with fail
   refine HN.out.mono ?_
   rintro _ w1 ⟨rfl, hb1⟩
   have HB1 := Lib.hid (HB.out.trans (hb1.mono HB.out.size))
   clear hb1
   go_wp2_with fail
   refine (HTG.out _ (HT.out.below (HB1.out.alloc HB1.out.size _))).mono ?_
   rintro _ w2 ⟨rfl, hb2⟩
   have HB2 := Lib.hid ((HB1.out.alloc HB1.out.size _).trans (hb2.mono (HB1.out.alloc HB1.out.size _).size))
   clear hb2
   go_wp2_with fail
   go_ret
   exact ⟨rfl, HB2.out⟩
 have n0 : (cond == 0) = false := by rw [beq_eq_false_iff_ne]; exact c0
 have n1 : (cond == 1) = false := by rw [beq_eq_false_iff_ne]; exact c1
 have n2 : (cond == 2) = false := by rw [beq_eq_false_iff_ne]; exact c2
 rw [if_neg c0, if_neg c1, if_neg c2]
 clear c0 c1 c2
 go_enter Tryz.func121, Tryz.ntmps121
 go_wp2_with fail
 refine HN.out.mono ?_
 rintro _ w1 ⟨rfl, hb1⟩
 have HB1 := Lib.hid (HB.out.trans (hb1.mono HB.out.size))
 clear hb1
 go_wp2_with fail
 go_ret
 exact ⟨rfl, HB1.out.alloc HB1.out.size _⟩
end Go.Proofs.YtlpgphiccjkenaaGreatDoor
namespace Go.Proofs.YtlpgphiccjkenaaGreatDoor
open Go.RowKit
def wr (cur : Array Value) : Nat → List Value → Array Value
 | _, [] => cur
 | o, v :: r => wr (cur.setIfInBounds o v) (o + 1) r
theorem wr_size : ∀ (vs : List Value) (cur : Array Value) (o : Nat), (wr cur o vs).size = cur.size
 | [], _, _ => rfl
 | v :: r, cur, o => by rw [wr, wr_size r]; simp
theorem wr_list : ∀ (vs : List Value) (cur : Array Value) (o : Nat), o + vs.length ≤ cur.size → (wr cur o vs).toList = cur.toList.take o ++ vs ++ cur.toList.drop (o + vs.length)
 | [], cur, o, _ => by simp [wr]
 | v :: r, cur, o, h => by
  simp only [List.length_cons] at h
  rw [wr, wr_list r _ _ (by simp; omega)]
  have h0 : o < cur.toList.length := by simp; omega
  rw [Array.toList_setIfInBounds, List.set_eq_take_append_cons_drop, if_pos h0]
  have e1 : (cur.toList.take o ++ v :: cur.toList.drop (o + 1)).take (o + 1) = cur.toList.take o ++ [v] := by
   rw [List.take_append, List.take_of_length_le (by simp; omega), List.length_take, Nat.min_eq_left (by omega), show o + 1 - o = 1 by omega]
   rfl
  have e2 : (cur.toList.take o ++ v :: cur.toList.drop (o + 1)).drop (o + 1 + r.length) = cur.toList.drop (o + (r.length + 1)) := by
   rw [List.drop_append, List.drop_eq_nil_of_le (by simp; omega), List.length_take, Nat.min_eq_left (by omega), show o + 1 + r.length - o = r.length + 1 by omega, List.drop_succ_cons, List.drop_drop, List.nil_append]
   congr 1; omega
  rw [e1, e2, List.length_cons]
  simp
theorem heap_setCells {g : Nat} {T : TypeId} : ∀ (vs : List Value) (o : Nat) (w : World) (cur : Array Value), w.heap[g]? = some (.cells cur T (0, 0)) → (w.setCells g o vs).heap[g]? = some (.cells (wr cur o vs) T (0, 0))
 | [], _, _, _, h => h
 | v :: r, o, w, cur, h => by
  rw [World.setCells, wr]
  exact heap_setCells r _ _ _ (heap_setCell_same w g o cur T v h)
theorem only_setCells (g : Nat) : ∀ (vs : List Value) (o : Nat) (w : World) (j : Nat), j ≠ g → (w.setCells g o vs).heap[j]? = w.heap[j]?
 | [], _, _, _, _ => rfl
 | v :: r, o, w, j, h => by
  rw [World.setCells, only_setCells g r _ _ j h, Below.heap_setCell _ _ _ _ h]
theorem below_cells {B g : Nat} {a : World} (hg : B ≤ g) : ∀ (vs : List Value) (o : Nat) (w : World), Below B a w → Below B a (w.setCells g o vs)
 | [], _, _, h => h
 | v :: r, o, _, h => below_cells hg r (o + 1) _ (h.setCell (p := ⟨g, o, none⟩) hg v)
def EX (w : World) (X : Nat) : Prop := w.heap[X]? = some (.cells #[.string ⟨#[]⟩, .slice none 0 0] 45 (0, 0))
theorem EX.lt {w : World} {X : Nat} (h : EX w X) : X < w.heap.size := by
 rcases Nat.lt_or_ge X w.heap.size with h1 | h1
 ·exact h1
 ·unfold EX at h
  rw [Array.getElem?_eq_none h1] at h
  cases h
theorem EX.ne {w : World} {X B : Nat} {v : Value} {l : List Ve} (h : EX w X) (ho : VOwn w B v l) : v.ownBlock ≠ some X := by
 intro e
 rcases ho.2 with ⟨rfl, _⟩ | ⟨g, cap, cur, rfl, _, hg, _⟩
 ·cases e
 ·cases e
  unfold EX at h
  rw [h] at hg
  simp at hg
structure PurS (w W : World) (X : Nat) (key : ByteArray) (v' : Value) (l : List Ve) : Prop where
 ex : EC W X key v'
 own : VOwn W (w.heap.size + 2) v' l
 bl : Below w.heap.size w W
 hX : w.heap.size + 2 ≤ X
 ne : v'.ownBlock ≠ some X
 er : EC W (w.heap.size + 1) ⟨#[]⟩ (.slice none 0 0)
theorem PurS.cut {w W w1 : World} {X g n m c : Nat} {key : ByteArray} {l l' : List Ve} (h : PurS w W X key (.slice (some ⟨g, 0, none⟩) n c) l) (ho : VOwn w1 (w.heap.size + 2) (.slice (some ⟨g, 0, none⟩) m c) l') (hb : Below (w.heap.size + 2) W w1) (hk : ∀ j, j ≠ g → w1.heap[j]? = W.heap[j]?) :
  EC w1 X key (.slice (some ⟨g, 0, none⟩) n c) ∧ VOwn (w1.setCell ⟨X, 1, none⟩ (.slice (some ⟨g, 0, none⟩) m c)) (w.heap.size + 2) (.slice (some ⟨g, 0, none⟩) m c) l' ∧ Below w.heap.size w (w1.setCell ⟨X, 1, none⟩ (.slice (some ⟨g, 0, none⟩) m c)) ∧ EC w1 (w.heap.size + 1) ⟨#[]⟩ (.slice none 0 0) := by
 have hXg : X ≠ g := fun e => h.ne (by rw [e]; rfl)
 have hg := (h.own.lt (g := g) rfl).1
 refine ⟨h.ex.kept (hk X hXg), ho.kept fun j hj => ?_, (h.bl.trans (hb.mono (by omega))).setCell (p := ⟨X, 1, none⟩) (by have := h.hX; simp; omega) _, h.er.kept (hk _ (by omega))⟩
 obtain rfl : g = j := by simpa [Value.ownBlock] using hj
 exact Below.heap_setCell _ _ _ _ (fun e => hXg e.symm)
structure En where
 key : ByteArray
 vs : List Ve
structure Rs where
 err : Int
 ver : Int
structure Me where
 req : Int
 res : Rs
structure Bk where
 seq : Int
 l : List En
 ms : List Me
 l1 : Int
 l2 : Int
 l3 : Int
 l4 : Int
 l5 : Int
def Bk.low (s : Bk) (h : Int) : Int := if h = 1 then s.l1 else if h = 2 then s.l2 else if h = 3 then s.l3 else if h = 4 then s.l4 else s.l5
def Bk.setLow (s : Bk) (h n : Int) : Bk :=
 if h = 1 then { s with l1 := n } else if h = 2 then { s with l2 := n } else if h = 3 then { s with l3 := n } else if h = 4 then { s with l4 := n } else { s with l5 := n }
def lastV (l : List Ve) : Int := match l.getLast? with | none => 0 | some v => v.ver
def riseE (q : Int) : ByteArray → List En → Bool
 | _, [] => true
 | b, e :: r => mayE e.key e.vs && !(kle e.key b) && decide (lastV e.vs ≤ q) && riseE q e.key r
def mayEs (q : Int) (l : List En) : Bool := decide (l.length ≤ 40) && riseE q ⟨#[]⟩ l
def mayMe (s : Bk) (m : Me) : Bool :=
 decide (homeP m.req ≠ 0) && decide (s.low (homeP m.req) ≤ m.req) && decide (0 ≤ m.res.err) && decide (m.res.err ≤ 13) && decide (0 ≤ m.res.ver) && decide (m.res.ver ≤ s.seq)
def riseM (s : Bk) : Int → List Me → Bool
 | _, [] => true
 | b, m :: r => decide (b < m.req) && mayMe s m && riseM s m.req r
def mayMs (s : Bk) : Bool := decide (s.ms.length ≤ 100) && riseM s 0 s.ms
def mayLow (n h : Int) : Bool := decide (n = 0) || decide (homeP n = h)
def mayLs (s : Bk) : Bool := mayLow s.l1 1 && mayLow s.l2 2 && mayLow s.l3 3 && mayLow s.l4 4 && mayLow s.l5 5
def bmay (s : Bk) : Bool := decide (0 ≤ s.seq) && decide (s.seq ≤ 1099511627776) && mayEs s.seq s.l && mayMs s && mayLs s
def toldB (ms : List Me) (r : Int) : Option Rs := (ms.find? fun m => m.req == r).map (·.res)
def placeK (l : List En) (key : ByteArray) : Nat := (l.takeWhile fun e => klt e.key key).length
def atK (l : List En) (key : ByteArray) : Option En := (l[placeK l key]?).bind fun e => if e.key = key then some e else none
def addK (l : List En) (k : Nat) (e : En) (v : Ve) : List En × Rs :=
 if (addE e.vs v).2 then (l.set k ⟨e.key, (addE e.vs v).1⟩, ⟨0, v.ver⟩) else (l, ⟨5, 0⟩)
def purgeK (l : List En) (k : Nat) (e : En) (ver : Int) : List En × Rs :=
 if (purgeE e.vs ver).2 then (if (purgeE e.vs ver).1 = [] then l.eraseIdx k else l.set k ⟨e.key, (purgeE e.vs ver).1⟩, ⟨0, ver⟩) else (l, ⟨6, 0⟩)
def changeB (l : List En) (q : Int) (d : De) : List En × Rs :=
 match atK l d.key with
 | some e =>
  if d.kind = 1 then (if holdsE e.vs d.cond d.tag then addK l (placeK l d.key) e ⟨q, false, d.body⟩ else (l, ⟨9, 0⟩))
  else if d.kind = 2 then addK l (placeK l d.key) e ⟨q, true, ⟨#[]⟩⟩
  else purgeK l (placeK l d.key) e d.ver
 | none =>
  if d.kind = 1 then
   (if holdsE [] d.cond d.tag then (if l.length = 40 then (l, ⟨5, 0⟩) else (l.take (placeK l d.key) ++ [⟨d.key, [⟨q, false, d.body⟩]⟩] ++ l.drop (placeK l d.key), ⟨0, q⟩)) else (l, ⟨9, 0⟩))
  else (l, ⟨6, 0⟩)
def placeM (ms : List Me) (r : Int) : Nat := (ms.takeWhile fun m => decide (m.req < r)).length
def keepM (ms : List Me) (m : Me) : List Me := ms.take (placeM ms m.req) ++ [m] ++ ms.drop (placeM ms m.req)
def forgetB (s : Bk) (h low : Int) : Bk :=
 if homeP low = h ∧ s.low h < low then { s.setLow h low with ms := s.ms.filter fun m => !(decide (homeP m.req = h) && decide (m.req < low)) } else s
def doB (s : Bk) (d : De) (b : Bool) : Bk × Rs :=
 if !(bmay s && b) then (s, ⟨1, 0⟩)
 else if s.seq = 1099511627776 then (s, ⟨5, 0⟩)
 else if d.req < s.low (homeP d.req) then ({ s with seq := s.seq + 1 }, ⟨12, 0⟩)
 else match toldB s.ms d.req with
  | some r => ({ s with seq := s.seq + 1 }, r)
  | none =>
   if s.ms.length = 100 then ({ s with seq := s.seq + 1 }, ⟨5, 0⟩)
   else (forgetB { s with seq := s.seq + 1, l := (changeB s.l (s.seq + 1) d).1, ms := keepM s.ms ⟨d.req, (changeB s.l (s.seq + 1) d).2⟩ } (homeP d.req) d.low, (changeB s.l (s.seq + 1) d).2)
theorem run_copy_cells_k {P : Program} (w : World) (dT sT ty elem : TypeId) (k b o dLen dCap : Nat) (a : Addr) (sLen sCap : Nat) (cs : List Value)
  (hu : P.underlying dT = some (.slice elem)) (hs : (P.info? elem).map (·.size) = some k) (hn : cs.length = Nat.min sLen dLen * k)
  (hsrc : ∀ j v, cs[j]? = some v → w.cell? (a.add j) = some v) (hc : ∀ j, j < cs.length → (w.cell? ⟨b, o + j, none⟩).isSome = true) (hf : ∀ j, j < cs.length → w.frozen? ⟨b, o + j, none⟩ = false) (h1 : ∀ v ∈ cs, v.oneCell' = true) :
  (Builtin.copy_ #[dT, sT] ty #[.slice (some ⟨b, o, none⟩) dLen dCap, .slice (some a) sLen sCap]).run P w = .ok (goInt (Nat.min sLen dLen)) (w.setCells b o cs) := by
 have hl := run_loadCells_list (P := P) w a cs hsrc
 have hst := run_storeCells_cells (P := P) b o cs 0 w (by simpa using hc) (by simpa using hf) h1
 cases hq : P.info? elem with
 | none => simp [hq] at hs
 | some i =>
  have hi : i.size = k := by simpa [hq] using hs
  simp [Builtin.copy_, run_underlying hu, Builtin.lenOf, Builtin.firstCells, sizeOf, typeInfo, hq, hi, ← hn, hl, hst]
theorem block_facts {w : World} {g : Nat} {cur : Array Value} {T : TypeId} (hg : w.heap[g]? = some (.cells cur T (0, 0))) :
  (∀ j, j < cur.size → (w.cell? ⟨g, j, none⟩).isSome = true) ∧ (∀ j, w.frozen? ⟨g, j, none⟩ = false) ∧ g < w.heap.size ∧ w.shape? g = some (T, cur.size) ∧ (∀ j v, cur.toList[j]? = some v → w.cell? ⟨g, j, none⟩ = some v) := by
 refine ⟨fun j hj => ?_, fun j => ?_, (Array.getElem?_eq_some_iff.1 hg).1, ?_, fun j v hv => ?_⟩
 ·unfold World.cell?
  simp only [hg]
  simp
  omega
 ·simp [World.frozen?, hg]
 ·simp [World.shape?, hg]
 ·unfold World.cell?
  simp only [hg]
  simpa using hv
theorem row_put_in {w : World} {B g cap n i k : Nat} {cs vs : List Value} {T : TypeId} {cur : Array Value} (hB : B ≤ g) (hg : w.heap[g]? = some (.cells cur T (0, 0))) (hr : n + 1 ≤ cap) (hm : cap ≤ maxLen) (hs : cur.size = cap * k) (ht : cur.toList.take (n * k) = cs) (hi : i < n) (hvs : vs.length = k) :
  ((w.setCells g ((i + 1) * k) (cs.drop (i * k))).setCells g (i * k) vs).ownsRow B T k (.slice (some ⟨g, 0, none⟩) (n + 1) cap) (n + 1) (cs.take (i * k) ++ vs ++ cs.drop (i * k)) := by
 have hcl : cs.length = n * k := by
  rw [← ht, List.length_take]
  have : cur.toList.length = cap * k := hs
  have h2 : n * k ≤ cap * k := Nat.mul_le_mul_right k (by omega)
  omega
 have hik : i * k + k ≤ n * k := by have := Nat.mul_le_mul_right k (show i + 1 ≤ n from hi); rw [Nat.add_mul, Nat.one_mul] at this; exact this
 have hnk : n * k + k ≤ cap * k := by have := Nat.mul_le_mul_right k hr; rw [Nat.add_mul, Nat.one_mul] at this; exact this
 have e1 : (i + 1) * k = i * k + k := by rw [Nat.add_mul, Nat.one_mul]
 have e2 : (n + 1) * k = n * k + k := by rw [Nat.add_mul, Nat.one_mul]
 have hdl : (cs.drop (i * k)).length = n * k - i * k := by rw [List.length_drop, hcl]
 have hlen : (cs.take (i * k) ++ vs ++ cs.drop (i * k)).length = n * k + k := by
  rw [List.length_append, List.length_append, List.length_take, hvs, hdl, hcl, Nat.min_eq_left (by omega)]; omega
 refine ⟨by rw [hlen, e2], .inr ⟨g, cap, _, rfl, hB, heap_setCells vs _ _ _ (heap_setCells (cs.drop (i * k)) _ w cur hg), hr, hm, by rw [wr_size, wr_size, hs], ?_⟩⟩
 have hcur : cur.toList.length = cap * k := hs
 rw [wr_list _ _ _ (by rw [wr_size, hs, hvs]; omega), wr_list _ _ _ (by rw [hdl, hs, e1]; omega), e1, e2, hvs, hdl]
 have t1 : cur.toList.take (i * k) = cs.take (i * k) := by rw [← ht, List.take_take, Nat.min_eq_left (by omega)]
 have hA1 : (cur.toList.take (i * k + k) ++ cs.drop (i * k) ++ cur.toList.drop (i * k + k + (n * k - i * k))).take (i * k) = cs.take (i * k) := by
  rw [List.append_assoc, List.take_append_of_le_length (by rw [List.length_take]; omega), List.take_take, Nat.min_eq_left (by omega), t1]
 have hA2 : (cur.toList.take (i * k + k) ++ cs.drop (i * k) ++ cur.toList.drop (i * k + k + (n * k - i * k))).drop (i * k + k) = cs.drop (i * k) ++ cur.toList.drop (i * k + k + (n * k - i * k)) := by
  rw [List.append_assoc, List.drop_left' (by rw [List.length_take]; omega)]
 rw [hA1, hA2, ← List.append_assoc, List.take_left' hlen]
theorem row_put_new {w : World} {B g G n i k : Nat} {cs vs : List Value} {T : TypeId} {cur : Array Value} (hB : B ≤ g) (hg : w.heap[g]? = some (.cells cur T (0, 0))) (hr : n + 1 ≤ G) (hm : G ≤ maxLen) (hs : cur.size = G * k) (ht : cur.toList.take (i * k) = cs.take (i * k)) (hcl : cs.length = n * k) (hi : i < n) (hvs : vs.length = k) :
  ((w.setCells g (i * k) vs).setCells g ((i + 1) * k) (cs.drop (i * k))).ownsRow B T k (.slice (some ⟨g, 0, none⟩) (n + 1) G) (n + 1) (cs.take (i * k) ++ vs ++ cs.drop (i * k)) := by
 have hik : i * k + k ≤ n * k := by have := Nat.mul_le_mul_right k (show i + 1 ≤ n from hi); rw [Nat.add_mul, Nat.one_mul] at this; exact this
 have hnk : n * k + k ≤ G * k := by have := Nat.mul_le_mul_right k hr; rw [Nat.add_mul, Nat.one_mul] at this; exact this
 have e1 : (i + 1) * k = i * k + k := by rw [Nat.add_mul, Nat.one_mul]
 have e2 : (n + 1) * k = n * k + k := by rw [Nat.add_mul, Nat.one_mul]
 have hdl : (cs.drop (i * k)).length = n * k - i * k := by rw [List.length_drop, hcl]
 have hlen : (cs.take (i * k) ++ vs ++ cs.drop (i * k)).length = n * k + k := by
  rw [List.length_append, List.length_append, List.length_take, hvs, hdl, hcl, Nat.min_eq_left (by omega)]; omega
 have hlen2 : (cs.take (i * k) ++ vs).length = i * k + k := by
  rw [List.length_append, List.length_take, hvs, hcl, Nat.min_eq_left (by omega)]
 refine ⟨by rw [hlen, e2], .inr ⟨g, G, _, rfl, hB, heap_setCells (cs.drop (i * k)) _ _ _ (heap_setCells vs _ w cur hg), hr, hm, by rw [wr_size, wr_size, hs], ?_⟩⟩
 have hcur : cur.toList.length = G * k := hs
 rw [wr_list _ _ _ (by rw [wr_size, hs, hdl, e1]; omega), wr_list _ _ _ (by rw [hvs, hs]; omega), e1, e2, hvs, hdl, ht]
 rw [List.take_left' hlen2, List.take_left' hlen]
theorem ent_info0 : (Tryz.prog.info? 45).map (fun i => (i.zero, i.size, i.bytes)) = some (some (Value.agg #[.string ⟨#[]⟩, .slice none 0 0]), 2, 40) := by kernel_rfl
theorem ent_info : ∃ i0 : TypeInfo, Tryz.prog.info? 45 = some i0 ∧ i0.zero = some (Value.agg #[.string ⟨#[]⟩, .slice none 0 0]) ∧ i0.size = 2 ∧ i0.bytes = 40 := by
 have h := ent_info0
 cases hi : Tryz.prog.info? 45 with
 | none => rw [hi] at h; cases h
 | some i =>
  rw [hi] at h
  simp only [Option.map_some, Option.some.injEq, Prod.mk.injEq] at h
  exact ⟨i, rfl, h⟩
theorem ent_ins_shift (g cap n i vb : Nat) (cs vs : List Value) (TA : TypeId) (cur : Array Value) (w : World) (hg : w.heap[g]? = some (.cells cur 45 (0, 0))) (hroom : n + 1 ≤ cap) (hm : cap ≤ maxLen) (hs : cur.size = cap * 2) (ht : cur.toList.take (n * 2) = cs) (hi : i < n) (hn : n ≤ 1000000)
  (hv : w.heap[vb]? = some (.cells vs.toArray TA (0, 0))) (hvl : vs.length = 2) (h1c : ∀ u ∈ cs, u.oneCell' = true) (h1v : ∀ u ∈ vs, u.oneCell' = true) (hne : vb ≠ g) :
  Calls Tryz.prog 122 #[.slice (some ⟨g, 0, none⟩) n cap, .int .i64 i, .slice (some ⟨vb, 0, none⟩) 1 1] w fun e w' => e = .returned (.slice (some ⟨g, 0, none⟩) (n + 1) cap) ∧ w' = (w.drew.setCells g ((i + 1) * 2) (cs.drop (i * 2))).setCells g (i * 2) vs := by
 obtain ⟨i0, hi0, hz0, hz1, hz2⟩ := ent_info
 have hsz : (Tryz.prog.info? 45).map (·.size) = some 2 := by rw [hi0]; simp [hz1]
 obtain ⟨b1, b2, b3, b4, b5⟩ := block_facts hg
 obtain ⟨v1, v2, v3, v4, v5⟩ := block_facts hv
 have hcl : cs.length = n * 2 := by
  rw [← ht, List.length_take]
  have : cur.toList.length = cap * 2 := hs
  omega
 have hcs : ∀ j u, cs[j]? = some u → w.cell? ⟨g, j, none⟩ = some u := fun j u hj => by
  rw [← ht, List.getElem?_take] at hj
  split at hj
  ·exact b5 j u hj
  ·cases hj
 have hvs : ∀ j u, vs[j]? = some u → w.cell? ⟨vb, j, none⟩ = some u := fun j u hj => v5 j u (by simpa using hj)
 have hc63 : cap ≤ 9223372036854775807 := by unfold maxLen at hm; omega
 have hov : ∀ lb cb, (callFunc 155 #[.slice (some ⟨vb, 0, none⟩) 1 1, .slice (some ⟨g, (i + 1) * 2, none⟩) lb cb]).run Tryz.prog w = .ok (.value (.bool false)) w := fun lb cb => by
  rw [run_callFunc_extern Tryz.func155 (by kernel_rfl) (by kernel_rfl) (by kernel_rfl) (e := Extern.SlicesOverlaps.overlaps #[23, 23] #[4]) (by kernel_rfl),
   Lib.run_overlaps_apart w 23 4 45 Tryz.underlying23 2 Tryz.sizeOf45 ⟨vb, 0, none⟩ ⟨g, (i + 1) * 2, none⟩ 1 1 lb cb hne TA 45 vs.toArray.size cur.size v4 b4 (by omega) (v2 _) (v2 _)]
  rfl
 have hdl : (cs.drop (i * 2)).length = (n - i) * 2 := by rw [List.length_drop, hcl]; omega
 have mixed : Tryz.prog.follows .mixedOrders = true := by kernel_rfl
 have hz2 : ¬ ((i : Int) = (n : Int)) := by omega
 have hw1 : IntKind.i64.wrap ((i : Int) + 1) = (i : Int) + 1 := by rw [IntKind.wrap_i64]; omega
 have hb1 : (0 : Int) ≤ (i : Int) + 1 := by omega
 have hin : i ≤ n := by omega
 have hb2 : ¬ (cap = i + 1) := by omega
 have hb3 : (i : Int) ≤ (n : Int) + 1 := by omega
 have hb4 : ¬ (cap = i) := by omega
 have hcp1 : ∀ ty dc sc, (Builtin.copy_ #[23, 23] ty #[.slice (some ⟨g, (i + 1) * 2, none⟩) (n - i) dc, .slice (some ⟨g, i * 2, none⟩) (n + 1 - i) sc]).run Tryz.prog w.drew = .ok (goInt (Nat.min (n + 1 - i) (n - i))) (w.drew.setCells g ((i + 1) * 2) (cs.drop (i * 2))) := fun ty dc sc =>
  run_copy_cells_k w.drew _ _ ty 45 2 g ((i + 1) * 2) (n - i) dc ⟨g, i * 2, none⟩ (n + 1 - i) sc (cs.drop (i * 2)) Tryz.underlying23 hsz (by rw [hdl]; simp only [Nat.min_def]; split <;> omega)
   (fun j v hj => by rw [Addr.add_lit]; exact hcs (i * 2 + j) v (by rwa [List.getElem?_drop] at hj))
   (fun j hj => by rw [hdl] at hj; exact b1 _ (by omega)) (fun j hj => b2 _) (fun v hv => h1c v (List.mem_of_mem_drop hv))
 obtain ⟨W1, hW1⟩ : ∃ W1, W1 = w.drew.setCells g ((i + 1) * 2) (cs.drop (i * 2)) := ⟨_, rfl⟩
 have hcp2 : ∀ (W : World), (∀ x, W.cell? x = W1.cell? x) → (∀ x, W.frozen? x = W1.frozen? x) → ∀ ty dc, (Builtin.copy_ #[23, 23] ty #[.slice (some ⟨g, i * 2, none⟩) (n + 1 - i) dc, .slice (some ⟨vb, 0, none⟩) 1 1]).run Tryz.prog W = .ok (goInt (Nat.min 1 (n + 1 - i))) (W.setCells g (i * 2) vs) := fun W hWc hWf ty dc =>
  run_copy_cells_k W _ _ ty 45 2 g (i * 2) (n + 1 - i) dc ⟨vb, 0, none⟩ 1 1 vs Tryz.underlying23 hsz (by rw [hvl]; simp only [Nat.min_def]; split <;> omega)
   (fun j v hj => by
    rw [Addr.add_lit, hWc, hW1, World.cell?_setCells_out g _ _ _ _ (fun h _ => absurd h hne)]
    simpa using hvs j v hj)
   (fun j hj => by rw [hvl] at hj; rw [hWc, hW1]; exact World.isSome_setCells _ _ _ _ _ (b1 _ (by omega))) (fun j hj => by rw [hWf, hW1, World.frozen?_setCells]; exact b2 _) h1v
 rw [← hW1] at hcp1
 clear hcs hvs hdl b1 b2 b3 b4 b5 v1 v2 v3 v4 v5 hg hv hs ht h1c h1v hcl
 go_enter Tryz.func122, Tryz.ntmps122
 go_wp2_with (simp only [hov])
 go_region_law_o (refine step_copy_runI rfl _ _ 23 23 rfl _ _ (by simp [Act.eval, Act.put]) (by simp [Act.eval, Act.put]) (hcp1 _ _ _) ?_)
 go_wp2_with (at_builtin; refine wpList_copy_runI _ rfl _ _ 23 23 rfl _ _ rfl rfl (hcp2 _ (fun _ => rfl) (fun _ => rfl) _ _) ?_)
 go_ret
 first | exact ⟨rfl, rfl⟩ | exact ⟨rfl, by rw [hW1]⟩
theorem ent_ins_grow (g cap n i vb : Nat) (cs vs : List Value) (TA : TypeId) (cur : Array Value) (w : World) (hg : w.heap[g]? = some (.cells cur 45 (0, 0))) (hnc : n ≤ cap) (hroom : cap < n + 1) (hs : cur.size = cap * 2) (ht : cur.toList.take (n * 2) = cs) (hi : i < n) (hn : n ≤ 1000000)
  (hv : w.heap[vb]? = some (.cells vs.toArray TA (0, 0))) (hvl : vs.length = 2) (h1c : ∀ u ∈ cs, u.oneCell' = true) (h1v : ∀ u ∈ vs, u.oneCell' = true) :
  Calls Tryz.prog 122 #[.slice (some ⟨g, 0, none⟩) n cap, .int .i64 i, .slice (some ⟨vb, 0, none⟩) 1 1] w fun e w' => ∃ G ROW, n + 1 ≤ G ∧ G ≤ maxLen ∧ ROW.size = G * 2 ∧ ROW.toList.take (i * 2) = cs.take (i * 2) ∧ e = .returned (.slice (some ⟨w.heap.size, 0, none⟩) (n + 1) G) ∧
   w' = (((w.alloc (.cells ROW 45)).drew.setCells w.heap.size (i * 2) vs).drew).setCells w.heap.size ((i + 1) * 2) (cs.drop (i * 2)) := by
 obtain ⟨i0, hi0, hz0, hzs, hzb⟩ := ent_info
 have hsz : (Tryz.prog.info? 45).map (·.size) = some 2 := by rw [hi0]; simp [hzs]
 obtain ⟨b1, b2, hbw, b4, b5⟩ := block_facts hg
 obtain ⟨v1, v2, hvw, v4, v5⟩ := block_facts hv
 have hcl : cs.length = n * 2 := by
  rw [← ht, List.length_take]
  have : cur.toList.length = cap * 2 := hs
  omega
 have hcs : ∀ j u, cs[j]? = some u → w.cell? ⟨g, j, none⟩ = some u := fun j u hj => by
  rw [← ht, List.getElem?_take] at hj
  split at hj
  ·exact b5 j u hj
  ·cases hj
 have hvs : ∀ j u, vs[j]? = some u → w.cell? ⟨vb, j, none⟩ = some u := fun j u hj => v5 j u (by simpa using hj)
 have mixed : Tryz.prog.follows .mixedOrders = true := by kernel_rfl
 have hz2 : ¬ ((i : Int) = (n : Int)) := by omega
 have hz3 : (cap : Int) < (n : Int) + 1 := by omega
 have hw1 : IntKind.i64.wrap ((i : Int) + 1) = (i : Int) + 1 := by rw [IntKind.wrap_i64]; omega
 have hb1 : (0 : Int) ≤ (i : Int) + 1 := by omega
 have hin : i ≤ n := by omega
 have hkk : (n : Int) + 1 - (i : Int) = ((n + 1 - i : Nat) : Int) := by omega
 have hik : i + (n + 1 - i) = n + 1 := by omega
 have hold : (Builtin.firstCells i0.size i (.slice (some ⟨g, 0, none⟩) i cap)).run Tryz.prog w.drew = .ok (cs.take (i * 2)).toArray w.drew := by
  rw [hzs]
  exact run_firstCells_some w.drew 2 i ⟨g, 0, none⟩ i cap (cs.take (i * 2)) (by rw [List.length_take]; omega) (fun j v hj => by
   rw [Addr.add_lit, Nat.zero_add]
   rw [List.getElem?_take] at hj
   split at hj
   ·exact hcs j v hj
   ·cases hj)
 have hrz : ∀ ty, (Builtin.append_ #[23, 3] ty #[.slice (some ⟨g, 0, none⟩) i cap, .int .i64 ((n : Int) + 1 - (i : Int))]).run Tryz.prog w =
   .ok (.slice (some ⟨w.heap.size, 0, none⟩) (n + 1) (grownCap w (n + 1) cap 45)) (w.drew.alloc (.cells ((cs.take (i * 2)).toArray ++ Builtin.zeroCells (Value.agg #[.string ⟨#[]⟩, .slice none 0 0]).cells (n + 1 - i) ++ Builtin.zeroCells (Value.agg #[.string ⟨#[]⟩, .slice none 0 0]).cells (grownCap w (n + 1) cap 45 - (n + 1))) 45)) := fun ty => by
  have h := Lib.run_append_grow_zeros w 23 3 ty 45 i0 _ .i64 .i64 Tryz.underlying23 Tryz.underlying3 hi0 hz0 (some ⟨g, 0, none⟩) i cap (cs.take (i * 2)) hold (n + 1 - i) (by omega) (by omega) (by omega) (by omega) (by rw [hzb]; omega) (by rw [hzb, hik]; exact growslice_fits hroom (by omega))
  rw [hik] at h
  rw [hkk]
  exact h
 obtain ⟨G, hG⟩ : ∃ G, G = grownCap w (n + 1) cap 45 := ⟨_, rfl⟩
 obtain ⟨ROW, hROW⟩ : ∃ ROW : Array Value, ROW = (cs.take (i * 2)).toArray ++ Builtin.zeroCells (Value.agg #[.string ⟨#[]⟩, .slice none 0 0]).cells (n + 1 - i) ++ Builtin.zeroCells (Value.agg #[.string ⟨#[]⟩, .slice none 0 0]).cells (G - (n + 1)) := ⟨_, rfl⟩
 rw [← hG] at hrz
 rw [← hROW] at hrz
 have hGn : n + 1 ≤ G := by rw [hG]; exact grownCap_ge w _ _ _
 have hGm : G ≤ maxLen := by
  have := grownCap_le_maxLen w (n + 1) cap 45 (by unfold maxLen; omega)
  rw [← hG] at this
  exact this
 have hzc : (Value.agg #[.string ⟨#[]⟩, .slice none 0 0]).cells = #[.string ⟨#[]⟩, .slice none 0 0] := by kernel_rfl
 have hRs : ROW.size = G * 2 := by
  have : (cs.take (i * 2)).length = i * 2 := by rw [List.length_take, hcl]; omega
  rw [hROW]
  simp only [Array.size_append, List.size_toArray, this, hzc, Builtin.zeroCells]
  simp
  omega
 have hRt : ROW.toList.take (i * 2) = cs.take (i * 2) := by
  have : (cs.take (i * 2)).length = i * 2 := by rw [List.length_take, hcl]; omega
  rw [hROW, Array.toList_append, Array.toList_append, List.append_assoc]
  rw [List.take_append_of_le_length (by simp [hcl]; omega)]
  show List.take (i * 2) (cs.take (i * 2)) = _
  rw [List.take_take, Nat.min_self]
 obtain ⟨W1, hW1⟩ : ∃ W1, W1 = w.drew.alloc (.cells ROW 45) := ⟨_, rfl⟩
 rw [← hW1] at hrz
 have hN : ∀ j, j < (n + 1) * 2 → (W1.cell? ⟨w.heap.size, j, none⟩).isSome = true := fun j hj => by
  rw [hW1, World.cell?_alloc_at (w := w.drew) ROW _ w.heap.size j rfl, Array.getElem?_eq_getElem (by omega)]; rfl
 have hNf : ∀ j, W1.frozen? ⟨w.heap.size, j, none⟩ = false := fun j => by rw [hW1]; exact World.frozen?_alloc_at (w := w.drew) ROW _ w.heap.size j rfl
 have hOb : ∀ j v, w.cell? ⟨g, j, none⟩ = some v → W1.cell? ⟨g, j, none⟩ = some v := fun j v h => by rw [hW1, World.cell?_alloc_past (w := w.drew) _ g j hbw]; exact h
 have hOv : ∀ j v, w.cell? ⟨vb, j, none⟩ = some v → W1.cell? ⟨vb, j, none⟩ = some v := fun j v h => by rw [hW1, World.cell?_alloc_past (w := w.drew) _ vb j hvw]; exact h
 have hcpA : ∀ (W : World), (∀ x, W.cell? x = W1.cell? x) → (∀ x, W.frozen? x = W1.frozen? x) → ∀ ty dc, (Builtin.copy_ #[23, 23] ty #[.slice (some ⟨w.heap.size, i * 2, none⟩) (n + 1 - i) dc, .slice (some ⟨vb, 0, none⟩) 1 1]).run Tryz.prog W = .ok (goInt (Nat.min 1 (n + 1 - i))) (W.setCells w.heap.size (i * 2) vs) := fun W hWc hWf ty dc =>
  run_copy_cells_k W _ _ ty 45 2 w.heap.size (i * 2) (n + 1 - i) dc ⟨vb, 0, none⟩ 1 1 vs Tryz.underlying23 hsz (by rw [hvl]; simp only [Nat.min_def]; split <;> omega)
   (fun j v hj => by rw [Addr.add_lit, hWc, Nat.zero_add]; exact hOv _ v (hvs j v hj))
   (fun j hj => by rw [hvl] at hj; rw [hWc]; exact hN _ (by omega)) (fun j hj => by rw [hWf]; exact hNf _) h1v
 have hG63 : G ≤ 9223372036854775807 := by unfold maxLen at hGm; omega
 have hGi : ¬ (G = i) := by omega
 have hGim : ¬ (G = i + 1) := by omega
 have hci : ¬ (cap = i) := by omega
 have hbN : g ≠ w.heap.size := by omega
 have hdl : (cs.drop (i * 2)).length = (n - i) * 2 := by rw [List.length_drop, hcl]; omega
 have hcpB : ∀ (W : World), (∀ x, W.cell? x = (W1.setCells w.heap.size (i * 2) vs).cell? x) → (∀ x, W.frozen? x = (W1.setCells w.heap.size (i * 2) vs).frozen? x) → ∀ ty dc sc, (Builtin.copy_ #[23, 23] ty #[.slice (some ⟨w.heap.size, (i + 1) * 2, none⟩) (n - i) dc, .slice (some ⟨g, i * 2, none⟩) (n - i) sc]).run Tryz.prog W = .ok (goInt (Nat.min (n - i) (n - i))) (W.setCells w.heap.size ((i + 1) * 2) (cs.drop (i * 2))) := fun W hWc hWf ty dc sc =>
  run_copy_cells_k W _ _ ty 45 2 w.heap.size ((i + 1) * 2) (n - i) dc ⟨g, i * 2, none⟩ (n - i) sc (cs.drop (i * 2)) Tryz.underlying23 hsz (by rw [hdl]; simp only [Nat.min_def]; split <;> omega)
   (fun j v hj => by
    rw [Addr.add_lit, hWc, World.cell?_setCells_out _ _ _ _ _ (fun h _ => absurd h hbN)]
    exact hOb _ v (hcs (i * 2 + j) v (by rwa [List.getElem?_drop] at hj)))
   (fun j hj => by rw [hdl] at hj; rw [hWc]; exact World.isSome_setCells _ _ _ _ _ (hN _ (by omega)))
   (fun j hj => by rw [hWf, World.frozen?_setCells]; exact hNf _) (fun v hv => h1c v (List.mem_of_mem_drop hv))
 subst hW1
 have hE1 : ∀ x, ((w.alloc (.cells ROW 45)).drew).cell? x = (w.drew.alloc (.cells ROW 45)).cell? x := fun x => rfl
 have hE2 : ∀ x, ((w.alloc (.cells ROW 45)).drew).frozen? x = (w.drew.alloc (.cells ROW 45)).frozen? x := fun x => rfl
 have hF1 : ∀ x, (((w.alloc (.cells ROW 45)).drew.setCells w.heap.size (i * 2) vs).drew).cell? x = ((w.drew.alloc (.cells ROW 45)).setCells w.heap.size (i * 2) vs).cell? x := fun x => rfl
 have hF2 : ∀ x, (((w.alloc (.cells ROW 45)).drew.setCells w.heap.size (i * 2) vs).drew).frozen? x = ((w.drew.alloc (.cells ROW 45)).setCells w.heap.size (i * 2) vs).frozen? x := fun x => rfl
 clear hkk hik hold hN hNf hOb hOv hcs hvs hdl b1 b2 b4 b5 v1 v2 v4 v5 hg hv hs ht h1c h1v hcl hROW hG hzc
 go_enter Tryz.func122, Tryz.ntmps122
 go_wp2_with (at_builtin; refine Lib.wpList_append_run _ rfl _ _ _ _ rfl _ _ rfl rfl _ _ (hrz _) ?_)
 go_wp2_with (at_builtin; refine wpList_copy_runI _ rfl _ _ 23 23 rfl _ _ rfl rfl (hcpA _ hE1 hE2 _ _) ?_)
 go_region_law_o (refine step_copy_runI rfl _ _ 23 23 rfl (.slice (some ⟨w.heap.size, (i + 1) * 2, none⟩) (n - i) (G - (i + 1))) (.slice (some ⟨g, i * 2, none⟩) (n - i) (cap - i)) (by simp [Act.eval, Act.put]) (by simp [Act.eval, Act.put]) (hcpB _ hF1 hF2 3 (G - (i + 1)) (cap - i)) ?_)
 go_wp2
 go_ret
 exact ⟨G, ROW, hGn, hGm, hRs, hRt, rfl, rfl⟩
end Go.Proofs.YtlpgphiccjkenaaGreatDoor
