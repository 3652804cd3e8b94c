/-
  Contracts of the program, and what they rest on.
-/
import Derived.Test.YtadponabbkbiaaaGreatDoorM03
import Derived.Test.YtadponabbkbiaaaGreatDoorM12
import Derived.Laws.MakeOwn
import Derived.Test.YtadponabbkbiaaaGreatDoorRRef2
import Derived.Test.YtadponabbkbiaaaGreatDoorRMark
import Derived.Test.YtadponabbkbiaaaGreatDoorRTomF
import Derived.Test.YtadponabbkbiaaaGreatDoorRefDa
namespace Go.Proofs.YtadponabbkbiaaaGreatDoor
open Go.RowKit Go.Proofs.Flo Go.Proofs.Cpl Go.Sort
theorem infoByteK : (Tryz.prog.info? 5).map (fun i => (i.zero, i.size, i.bytes)) = some (some (.int .u8 0), 1, 1) := by kernel_rfl
theorem make_k (n : Nat) (hn : n ≤ 1000) (w : World) : (Instr.makeSlice 23 (.int .i64 (n : Int)) (.int .i64 (n : Int))).run Tryz.prog w = .ok (.slice (some ⟨w.heap.size, 0, none⟩) n n) (w.alloc (.cells (madeCells #[.int .u8 0] n) 5)) := by
  have h := infoByteK
  cases hi : Tryz.prog.info? 5 with
  | none => rw [hi] at h; cases h
  | some i0 =>
    rw [hi] at h
    simp only [Option.map_some, Option.some.injEq, Prod.mk.injEq] at h
    obtain ⟨hz0, hz1, hz2⟩ := h
    have h := run_make (P := Tryz.prog) w 23 5 i0 (.int .u8 0) Tryz.underlying23 hi hz0 .i64 .i64 n n (by omega) (by omega) (by rw [hz2]; omega) (by omega)
    rw [hz1, Nat.mul_one, Int.toNat_natCast] at h
    exact h
theorem zeros_k (w : World) (n : Nat) (e : TypeId) : BytesAt (w.alloc (.cells (madeCells #[.int .u8 0] n) e)) w.heap.size 0 (List.replicate n 0) := by
  intro i hi
  rw [List.length_replicate] at hi
  rw [Nat.zero_add, World.cell?_alloc_at _ _ _ _ rfl]
  unfold madeCells
  rw [Array.getElem?_map, Array.getElem?_range]
  simp [hi, Nat.mod_one]
theorem conv_k {w : World} {g cap : Nat} {T : ByteArray} (h : BytesAt w g 0 T.data.toList) :
    (convert 23 9 (.slice (some ⟨g, 0, none⟩) T.size cap)).run Tryz.prog w = .ok (.string T) w := by
  have h1 := run_convert_bytes_back (P := Tryz.prog) w 23 9 5 ⟨g, 0, none⟩ cap T.data.toList Tryz.underlying23 Tryz.underlying5 Tryz.underlying9 (fun j hj => by
    have := h j hj
    rw [Addr.add_lit]
    exact this)
  exact h1
def kT (n : Nat) : ByteArray := ⟨(List.replicate n (107 : UInt8)).toArray⟩
theorem kT_size (n : Nat) : (kT n).size = n := by
  show (List.replicate n (107 : UInt8)).toArray.size = n
  simp
theorem kT_list (n : Nat) : (kT n).data.toList = List.replicate n 107 := by
  unfold kT
  simp
def kz (n j : Nat) : List UInt8 := List.replicate j 107 ++ List.replicate (n - j) 0
theorem kz_len {n j : Nat} (h : j ≤ n) : (kz n j).length = n := by
  unfold kz
  simp
  omega
theorem kz_set {n j : Nat} (h : j < n) : (kz n j).set j 107 = kz n (j + 1) := by
  unfold kz
  obtain ⟨k, hk⟩ : ∃ k, n - j = k + 1 := ⟨n - j - 1, by omega⟩
  rw [hk, show n - (j + 1) = k by omega, List.set_append_right _ _ (by simp), List.length_replicate, Nat.sub_self, List.replicate_succ, List.set_cons_zero, List.replicate_succ', List.append_assoc]
  rfl
theorem kz_end (n : Nat) : kz n n = List.replicate n 107 := by
  unfold kz
  simp
def okK (n : Nat) : Bool := decide (1 ≤ n) && decide (n ≤ 40)
theorem keyB_k (n : Nat) : keyB (kT n) = okK n := by
  unfold keyB okK
  rw [kT_size, kT_list]
  have : (List.replicate n (107 : UInt8)).all keyC = true := by
    rw [List.all_replicate]
    split
    · rfl
    · decide
  rw [this, Bool.and_true]
  congr 1
  exact decide_eq_decide.2 (by omega)
theorem all_set {l : List UInt8} {j : Nat} {c : UInt8} (hl : l.all keyC = true) (hj : j < l.length) : (l.set j c).all keyC = keyC c := by
  rw [Bool.eq_iff_iff]
  constructor
  · intro h
    exact List.all_eq_true.1 h c (List.mem_set hj c)
  · intro h
    refine List.all_eq_true.2 fun x hx => ?_
    rcases List.mem_or_eq_of_mem_set hx with h1 | h1
    · exact List.all_eq_true.1 hl x h1
    · rw [h1]; exact h
def kX (n j : Nat) (c : UInt8) : ByteArray := ⟨((List.replicate n (107 : UInt8)).set j c).toArray⟩
theorem kX_size (n j : Nat) (c : UInt8) : (kX n j c).size = n := by
  show ((List.replicate n (107 : UInt8)).set j c).toArray.size = n
  simp
theorem keyB_x {n j : Nat} (hj : j < n) (c : UInt8) : keyB (kX n j c) = (okK n && keyC c) := by
  unfold keyB okK
  rw [kX_size]
  have e : (kX n j c).data.toList = (List.replicate n (107 : UInt8)).set j c := by unfold kX; simp
  rw [e, all_set (by rw [List.all_replicate]; split <;> first | rfl | decide) (by simpa using hj)]
  congr 1
  congr 1
  exact decide_eq_decide.2 (by omega)
theorem keyC_yes {x : Int} (h : (97 ≤ x ∧ x ≤ 122) ∨ (48 ≤ x ∧ x ≤ 57) ∨ x = 46 ∨ x = 45 ∨ x = 95 ∨ x = 47) : keyC (UInt8.ofNat x.toNat) = true := by
  rw [keyC_iff]
  have e : (UInt8.ofNat x.toNat).toNat = x.toNat := by rw [UInt8.toNat_ofNat']; omega
  rw [e]
  omega
theorem keyC_no {x : Int} (h : 0 ≤ x ∧ x ≤ 255 ∧ ¬ ((97 ≤ x ∧ x ≤ 122) ∨ (48 ≤ x ∧ x ≤ 57) ∨ x = 46 ∨ x = 45 ∨ x = 95 ∨ x = 47)) : keyC (UInt8.ofNat x.toNat) = false := by
  rw [Bool.eq_false_iff]
  intro hk
  rw [keyC_iff] at hk
  have e : (UInt8.ofNat x.toNat).toNat = x.toNat := by rw [UInt8.toNat_ofNat']; omega
  rw [e] at hk
  omega
set_option maxRecDepth 100000 in
set_option maxHeartbeats 8000000 in
theorem deedKeys_walk (n x : Int) (w : World) (hbg : Begun5True) (h : LibAt w) (hx0 : 0 ≤ x) (hx1 : x ≤ 255) :
    Calls Tryz.prog 3 #[.int .i64 n, .int .u8 x] w fun e w' => e = .returned (.bool true) ∧ Below w.heap.size w w' := by
  have HB := Lib.hid (hbg w h)
  clear hbg h
  by_cases hn0 : n < 0
  · go_enter Tryz.func3, Tryz.ntmps3
    go_wp2_with fail
    refine HB.out.mono ?_
    rintro _ w0 ⟨rfl, hb1⟩
    go_wp2_with fail
    go_ret
    exact ⟨rfl, hb1⟩
  by_cases hn45 : 45 < n
  · go_enter Tryz.func3, Tryz.ntmps3
    go_wp2_with fail
    refine HB.out.mono ?_
    rintro _ w0 ⟨rfl, hb1⟩
    go_wp2_with fail
    go_ret
    exact ⟨rfl, hb1⟩
  obtain ⟨k, rfl⟩ : ∃ k : Nat, n = k := ⟨n.toNat, by omega⟩
  have hk : k ≤ 45 := by omega
  have hmk : ∀ w : World, (Instr.makeSlice 23 (.int .i64 (k : Int)) (.int .i64 (k : Int))).run Tryz.prog w = .ok (.slice (some ⟨w.heap.size, 0, none⟩) k k) (w.alloc (.cells (madeCells #[.int .u8 0] k) 5)) := fun w => make_k k (by omega) w
  go_enter Tryz.func3, Tryz.ntmps3
  go_wp2_with fail
  refine HB.out.mono ?_
  rintro _ w0 ⟨rfl, hb1⟩
  have HB1 := Lib.hid (hb1.alloc hb1.size (.cells (madeCells #[.int .u8 0] k) 5))
  have hz := zeros_k w0 k 5
  have hfz : ∀ j : Nat, (w0.alloc (.cells (madeCells #[.int .u8 0] k) 5)).frozen? ⟨w0.heap.size, j, none⟩ = false := by intro j; go_simp
  have hs0 : w.heap.size ≤ w0.heap.size := hb1.size
  have HZ := Lib.hid (And.intro hz hfz)
  clear hb1 hz hfz
  generalize madeCells #[.int .u8 0] k = MC at *
  go_wp2_with fail
  go_loopw [7, 23] (fun _ cv wr => ∃ j : Nat, cv = .int .i64 j ∧ j ≤ k ∧ Hid (BytesAt wr w0.heap.size 0 (kz k j)) ∧ Hid (∀ i : Nat, wr.frozen? ⟨w0.heap.size, i, none⟩ = false) ∧ Hid (Below w.heap.size w wr)) (fun _ cv _ => k - (intOf cv).toNat)
  case atStart =>
    exact ⟨0, rfl, Nat.zero_le _, Lib.hid (by have := HZ.out.1; unfold kz; simpa using this), Lib.hid HZ.out.2, HB1⟩
  case round =>
    obtain ⟨j, rfl, hj, HY, HF, HBW⟩ := hrel
    by_cases hlt : j < k
    · have hltz : (j : Int) < (k : Int) := by omega
      have hkz : (kz k j).length = k := kz_len hj
      have e0 := HY.out j (by rw [hkz]; exact hlt)
      rw [Nat.zero_add] at e0
      have f0 := HF.out j
      have hY2 := HY.out.set j (by rw [hkz]; exact hlt) 107
      rw [kz_set hlt] at hY2
      have HY2 := Lib.hid hY2
      have HB2 := Lib.hid (HBW.out.setCell (p := ⟨w0.heap.size, j, none⟩) hs0 (.int .u8 107))
      have HF2 : Hid (∀ i : Nat, (wr.setCell ⟨w0.heap.size, j, none⟩ (.int .u8 107)).frozen? ⟨w0.heap.size, i, none⟩ = false) := Lib.hid (fun i => by have := HF.out i; go_simp)
      clear hY2 HY HF HBW
      go_wp2_with fail
      go_roundw
      case rel => exact ⟨j + 1, by go_num, by omega, HY2, HF2, HB2⟩
      case measure => simp [intOf]; omega
    · obtain rfl : j = k := by omega
      have hltz : ¬ (j : Int) < (j : Int) := by omega
      have hY3 := HY.out
      rw [kz_end, ← kT_list] at hY3
      have hcv := conv_k (cap := j) hY3
      rw [kT_size] at hcv
      have HK := Lib.hid (key_p (kT j))
      rw [keyB_k] at HK
      generalize hT : kT j = T at hcv HK
      clear hT hY3
      have hall : (97 ≤ x ∧ x ≤ 122) ∨ (122 < x) ∨ (57 < x ∧ x < 97 ∧ x ≠ 95) ∨ (x = 95) ∨ (48 ≤ x ∧ x ≤ 57) ∨ (x = 46) ∨ (x = 45) ∨ (x = 47) ∨ (x < 48 ∧ x ≠ 45 ∧ x ≠ 46 ∧ x ≠ 47) := by omega
      by_cases hj0 : j = 0
      · subst hj0
        rw [show okK 0 = false from rfl] at HK
        go_wp2_with fail
        refine (HK.out _).mono ?_
        rintro _ w2 ⟨rfl, hb2⟩
        have HB2 := Lib.hid (HBW.out.trans (hb2.mono HBW.out.size))
        clear hb2
        go_wp2_with fail
        go_ret
        exact ⟨rfl, HB2.out⟩
      have hj1 : (1 : Int) ≤ (j : Int) := by omega
      have hjz : ((j : Int) == 0) = false := by rw [beq_eq_false_iff_ne]; omega
      obtain ⟨q, hq⟩ : ∃ q, j / 2 = q := ⟨_, rfl⟩
      have hqj : q < j := by omega
      have hqz : (q : Int) < (j : Int) := by omega
      have hdiv : (j : Int).tdiv 2 = (q : Int) := by rw [Int.tdiv_eq_ediv_of_nonneg (by omega)]; omega
      have hdiv2 : (j : Int) / 2 = (q : Int) := by omega
      have hxb : ((UInt8.ofNat x.toNat).toNat : Int) = x := by rw [UInt8.toNat_ofNat']; omega
      have hkz := kz_len (Nat.le_refl j)
      have hs1 : w0.heap.size < wr.heap.size := World.block_lt_of_cell? wr _ (HY.out 0 (by rw [hkz]; omega))
      have HQ := Lib.hid (And.intro hqj hxb)
      by_cases h40 : j ≤ 40
      · have hok : okK j = true := by unfold okK; simp; omega
        have hjf : (j : Int) ≤ 40 := by omega
        rw [hok] at HK
        clear hok
        go_wp2_with fail
        refine (HK.out _).mono ?_
        rintro _ w2 ⟨rfl, hb2⟩
        have hy2 := HY.out.below hb2 hs1
        have f2 : w2.frozen? ⟨w0.heap.size, q, none⟩ = false := by rw [hb2.frozen hs1]; exact HF.out q
        have e2 := hy2 q (by rw [hkz]; exact HQ.out.1)
        rw [Nat.zero_add] at e2
        obtain ⟨cc, ec⟩ : ∃ c : UInt8, w2.cell? ⟨w0.heap.size, q, none⟩ = some (.int .u8 (c.toNat : Int)) := ⟨_, e2⟩
        clear e2
        have hy3 := hy2.set q (by rw [hkz]; exact HQ.out.1) (UInt8.ofNat x.toNat)
        rw [hxb] at hy3
        have hcx : BytesAt (w2.setCell ⟨w0.heap.size, q, none⟩ (.int .u8 x)) w0.heap.size 0 (kX j q (UInt8.ofNat x.toNat)).data.toList := by
          rw [kz_end] at hy3
          have : (kX j q (UInt8.ofNat x.toNat)).data.toList = (List.replicate j (107 : UInt8)).set q (UInt8.ofNat x.toNat) := by unfold kX; simp
          rw [this]
          exact hy3
        have hcv2 := conv_k (cap := j) hcx
        rw [kX_size] at hcv2
        have HX := Lib.hid (fun W => key_p (kX j q (UInt8.ofNat x.toNat)) W)
        rw [keyB_x hqj, show okK j = true by unfold okK; simp; omega, Bool.true_and] at HX
        have HBX := Lib.hid ((HBW.out.trans (hb2.mono HBW.out.size)).setCell (p := ⟨w0.heap.size, q, none⟩) hs0 (.int .u8 x))
        generalize kX j q (UInt8.ofNat x.toNat) = X at *
        clear hy2 hy3 hcx hb2 hkz hxb HY HF HBW HQ
        rcases hall with hc | hc | hc | hc | hc | hc | hc | hc | hc
        · have t0 := hc
          have d0 : 97 ≤ x := by omega
          have d1 : x ≤ 122 := by omega
          have d2 : 48 ≤ x := by omega
          have d3 : decide (x ≤ 57) = false := decide_eq_false (by omega)
          have n3 : ¬ x ≤ 57 := by omega
          have e46 : (x == 46) = false := by rw [beq_eq_false_iff_ne]; omega
          have e45 : (x == 45) = false := by rw [beq_eq_false_iff_ne]; omega
          have e95 : (x == 95) = false := by rw [beq_eq_false_iff_ne]; omega
          have e47 : (x == 47) = false := by rw [beq_eq_false_iff_ne]; omega
          have hgood : keyC (UInt8.ofNat (x).toNat) = true := keyC_yes (by omega)
          rw [hgood] at HX
          clear hgood t0 hc
          go_wp2_with fail
          refine (HX.out _).mono ?_
          rintro _ w3 ⟨rfl, hb3⟩
          have HB3 := Lib.hid (HBX.out.trans (hb3.mono HBX.out.size))
          clear hb3
          go_wp2_with fail
          go_ret
          exact ⟨rfl, HB3.out⟩
        · have t0 := hc
          have d0 : 97 ≤ x := by omega
          have d1 : decide (x ≤ 122) = false := decide_eq_false (by omega)
          have n1 : ¬ x ≤ 122 := by omega
          have d2 : 48 ≤ x := by omega
          have d3 : decide (x ≤ 57) = false := decide_eq_false (by omega)
          have n3 : ¬ x ≤ 57 := by omega
          have e46 : (x == 46) = false := by rw [beq_eq_false_iff_ne]; omega
          have e45 : (x == 45) = false := by rw [beq_eq_false_iff_ne]; omega
          have e95 : (x == 95) = false := by rw [beq_eq_false_iff_ne]; omega
          have e47 : (x == 47) = false := by rw [beq_eq_false_iff_ne]; omega
          have hgood : keyC (UInt8.ofNat (x).toNat) = false := keyC_no (by omega)
          rw [hgood] at HX
          clear hgood t0 hc
          go_wp2_with fail
          refine (HX.out _).mono ?_
          rintro _ w3 ⟨rfl, hb3⟩
          have HB3 := Lib.hid (HBX.out.trans (hb3.mono HBX.out.size))
          clear hb3
          go_wp2_with fail
          go_ret
          exact ⟨rfl, HB3.out⟩
        · have t0 := hc
          have d0 : decide (97 ≤ x) = false := decide_eq_false (by omega)
          have n0 : ¬ 97 ≤ x := by omega
          have d1 : x ≤ 122 := by omega
          have d2 : 48 ≤ x := by omega
          have d3 : decide (x ≤ 57) = false := decide_eq_false (by omega)
          have n3 : ¬ x ≤ 57 := by omega
          have e46 : (x == 46) = false := by rw [beq_eq_false_iff_ne]; omega
          have e45 : (x == 45) = false := by rw [beq_eq_false_iff_ne]; omega
          have e95 : (x == 95) = false := by rw [beq_eq_false_iff_ne]; omega
          have e47 : (x == 47) = false := by rw [beq_eq_false_iff_ne]; omega
          have hgood : keyC (UInt8.ofNat (x).toNat) = false := keyC_no (by omega)
          rw [hgood] at HX
          clear hgood t0 hc
          go_wp2_with fail
          refine (HX.out _).mono ?_
          rintro _ w3 ⟨rfl, hb3⟩
          have HB3 := Lib.hid (HBX.out.trans (hb3.mono HBX.out.size))
          clear hb3
          go_wp2_with fail
          go_ret
          exact ⟨rfl, HB3.out⟩
        · subst hc
          have hgood : keyC (UInt8.ofNat ((95 : Int)).toNat) = true := keyC_yes (by omega)
          rw [hgood] at HX
          clear hgood
          go_wp2_with fail
          refine (HX.out _).mono ?_
          rintro _ w3 ⟨rfl, hb3⟩
          have HB3 := Lib.hid (HBX.out.trans (hb3.mono HBX.out.size))
          clear hb3
          go_wp2_with fail
          go_ret
          exact ⟨rfl, HB3.out⟩
        · have t0 := hc
          have d0 : decide (97 ≤ x) = false := decide_eq_false (by omega)
          have n0 : ¬ 97 ≤ x := by omega
          have d1 : x ≤ 122 := by omega
          have d2 : 48 ≤ x := by omega
          have d3 : x ≤ 57 := by omega
          have e46 : (x == 46) = false := by rw [beq_eq_false_iff_ne]; omega
          have e45 : (x == 45) = false := by rw [beq_eq_false_iff_ne]; omega
          have e95 : (x == 95) = false := by rw [beq_eq_false_iff_ne]; omega
          have e47 : (x == 47) = false := by rw [beq_eq_false_iff_ne]; omega
          have hgood : keyC (UInt8.ofNat (x).toNat) = true := keyC_yes (by omega)
          rw [hgood] at HX
          clear hgood t0 hc
          go_wp2_with fail
          refine (HX.out _).mono ?_
          rintro _ w3 ⟨rfl, hb3⟩
          have HB3 := Lib.hid (HBX.out.trans (hb3.mono HBX.out.size))
          clear hb3
          go_wp2_with fail
          go_ret
          exact ⟨rfl, HB3.out⟩
        · subst hc
          have hgood : keyC (UInt8.ofNat ((46 : Int)).toNat) = true := keyC_yes (by omega)
          rw [hgood] at HX
          clear hgood
          go_wp2_with fail
          refine (HX.out _).mono ?_
          rintro _ w3 ⟨rfl, hb3⟩
          have HB3 := Lib.hid (HBX.out.trans (hb3.mono HBX.out.size))
          clear hb3
          go_wp2_with fail
          go_ret
          exact ⟨rfl, HB3.out⟩
        · subst hc
          have hgood : keyC (UInt8.ofNat ((45 : Int)).toNat) = true := keyC_yes (by omega)
          rw [hgood] at HX
          clear hgood
          go_wp2_with fail
          refine (HX.out _).mono ?_
          rintro _ w3 ⟨rfl, hb3⟩
          have HB3 := Lib.hid (HBX.out.trans (hb3.mono HBX.out.size))
          clear hb3
          go_wp2_with fail
          go_ret
          exact ⟨rfl, HB3.out⟩
        · subst hc
          have hgood : keyC (UInt8.ofNat ((47 : Int)).toNat) = true := keyC_yes (by omega)
          rw [hgood] at HX
          clear hgood
          go_wp2_with fail
          refine (HX.out _).mono ?_
          rintro _ w3 ⟨rfl, hb3⟩
          have HB3 := Lib.hid (HBX.out.trans (hb3.mono HBX.out.size))
          clear hb3
          go_wp2_with fail
          go_ret
          exact ⟨rfl, HB3.out⟩
        · have t0 := hc
          have d0 : decide (97 ≤ x) = false := decide_eq_false (by omega)
          have n0 : ¬ 97 ≤ x := by omega
          have d1 : x ≤ 122 := by omega
          have d2 : decide (48 ≤ x) = false := decide_eq_false (by omega)
          have n2 : ¬ 48 ≤ x := by omega
          have d3 : x ≤ 57 := by omega
          have e46 : (x == 46) = false := by rw [beq_eq_false_iff_ne]; omega
          have e45 : (x == 45) = false := by rw [beq_eq_false_iff_ne]; omega
          have e95 : (x == 95) = false := by rw [beq_eq_false_iff_ne]; omega
          have e47 : (x == 47) = false := by rw [beq_eq_false_iff_ne]; omega
          have hgood : keyC (UInt8.ofNat (x).toNat) = false := keyC_no (by omega)
          rw [hgood] at HX
          clear hgood t0 hc
          go_wp2_with fail
          refine (HX.out _).mono ?_
          rintro _ w3 ⟨rfl, hb3⟩
          have HB3 := Lib.hid (HBX.out.trans (hb3.mono HBX.out.size))
          clear hb3
          go_wp2_with fail
          go_ret
          exact ⟨rfl, HB3.out⟩
      · have hok : okK j = false := by unfold okK; simp; omega
        have hjf : decide ((j : Int) ≤ 40) = false := decide_eq_false (by omega)
        have hjn : ¬ (j : Int) ≤ 40 := by omega
        rw [hok] at HK
        clear hok
        go_wp2_with fail
        refine (HK.out _).mono ?_
        rintro _ w2 ⟨rfl, hb2⟩
        have hy2 := HY.out.below hb2 hs1
        have f2 : w2.frozen? ⟨w0.heap.size, q, none⟩ = false := by rw [hb2.frozen hs1]; exact HF.out q
        have e2 := hy2 q (by rw [hkz]; exact HQ.out.1)
        rw [Nat.zero_add] at e2
        obtain ⟨cc, ec⟩ : ∃ c : UInt8, w2.cell? ⟨w0.heap.size, q, none⟩ = some (.int .u8 (c.toNat : Int)) := ⟨_, e2⟩
        clear e2
        have hy3 := hy2.set q (by rw [hkz]; exact HQ.out.1) (UInt8.ofNat x.toNat)
        rw [hxb] at hy3
        have hcx : BytesAt (w2.setCell ⟨w0.heap.size, q, none⟩ (.int .u8 x)) w0.heap.size 0 (kX j q (UInt8.ofNat x.toNat)).data.toList := by
          rw [kz_end] at hy3
          have : (kX j q (UInt8.ofNat x.toNat)).data.toList = (List.replicate j (107 : UInt8)).set q (UInt8.ofNat x.toNat) := by unfold kX; simp
          rw [this]
          exact hy3
        have hcv2 := conv_k (cap := j) hcx
        rw [kX_size] at hcv2
        have HX := Lib.hid (fun W => key_p (kX j q (UInt8.ofNat x.toNat)) W)
        rw [keyB_x hqj, show okK j = false by unfold okK; simp; omega, Bool.false_and] at HX
        have HBX := Lib.hid ((HBW.out.trans (hb2.mono HBW.out.size)).setCell (p := ⟨w0.heap.size, q, none⟩) hs0 (.int .u8 x))
        generalize kX j q (UInt8.ofNat x.toNat) = X at *
        clear hy2 hy3 hcx hb2 hkz hxb HY HF HBW HQ
        rcases hall with hc | hc | hc | hc | hc | hc | hc | hc | hc
        · have t0 := hc
          have d0 : 97 ≤ x := by omega
          have d1 : x ≤ 122 := by omega
          have d2 : 48 ≤ x := by omega
          have d3 : decide (x ≤ 57) = false := decide_eq_false (by omega)
          have n3 : ¬ x ≤ 57 := by omega
          have e46 : (x == 46) = false := by rw [beq_eq_false_iff_ne]; omega
          have e45 : (x == 45) = false := by rw [beq_eq_false_iff_ne]; omega
          have e95 : (x == 95) = false := by rw [beq_eq_false_iff_ne]; omega
          have e47 : (x == 47) = false := by rw [beq_eq_false_iff_ne]; omega
          clear t0 hc
          go_wp2_with fail
          refine (HX.out _).mono ?_
          rintro _ w3 ⟨rfl, hb3⟩
          have HB3 := Lib.hid (HBX.out.trans (hb3.mono HBX.out.size))
          clear hb3
          go_wp2_with fail
          go_ret
          exact ⟨rfl, HB3.out⟩
        · have t0 := hc
          have d0 : 97 ≤ x := by omega
          have d1 : decide (x ≤ 122) = false := decide_eq_false (by omega)
          have n1 : ¬ x ≤ 122 := by omega
          have d2 : 48 ≤ x := by omega
          have d3 : decide (x ≤ 57) = false := decide_eq_false (by omega)
          have n3 : ¬ x ≤ 57 := by omega
          have e46 : (x == 46) = false := by rw [beq_eq_false_iff_ne]; omega
          have e45 : (x == 45) = false := by rw [beq_eq_false_iff_ne]; omega
          have e95 : (x == 95) = false := by rw [beq_eq_false_iff_ne]; omega
          have e47 : (x == 47) = false := by rw [beq_eq_false_iff_ne]; omega
          clear t0 hc
          go_wp2_with fail
          refine (HX.out _).mono ?_
          rintro _ w3 ⟨rfl, hb3⟩
          have HB3 := Lib.hid (HBX.out.trans (hb3.mono HBX.out.size))
          clear hb3
          go_wp2_with fail
          go_ret
          exact ⟨rfl, HB3.out⟩
        · have t0 := hc
          have d0 : decide (97 ≤ x) = false := decide_eq_false (by omega)
          have n0 : ¬ 97 ≤ x := by omega
          have d1 : x ≤ 122 := by omega
          have d2 : 48 ≤ x := by omega
          have d3 : decide (x ≤ 57) = false := decide_eq_false (by omega)
          have n3 : ¬ x ≤ 57 := by omega
          have e46 : (x == 46) = false := by rw [beq_eq_false_iff_ne]; omega
          have e45 : (x == 45) = false := by rw [beq_eq_false_iff_ne]; omega
          have e95 : (x == 95) = false := by rw [beq_eq_false_iff_ne]; omega
          have e47 : (x == 47) = false := by rw [beq_eq_false_iff_ne]; omega
          clear t0 hc
          go_wp2_with fail
          refine (HX.out _).mono ?_
          rintro _ w3 ⟨rfl, hb3⟩
          have HB3 := Lib.hid (HBX.out.trans (hb3.mono HBX.out.size))
          clear hb3
          go_wp2_with fail
          go_ret
          exact ⟨rfl, HB3.out⟩
        · subst hc
          go_wp2_with fail
          refine (HX.out _).mono ?_
          rintro _ w3 ⟨rfl, hb3⟩
          have HB3 := Lib.hid (HBX.out.trans (hb3.mono HBX.out.size))
          clear hb3
          go_wp2_with fail
          go_ret
          exact ⟨rfl, HB3.out⟩
        · have t0 := hc
          have d0 : decide (97 ≤ x) = false := decide_eq_false (by omega)
          have n0 : ¬ 97 ≤ x := by omega
          have d1 : x ≤ 122 := by omega
          have d2 : 48 ≤ x := by omega
          have d3 : x ≤ 57 := by omega
          have e46 : (x == 46) = false := by rw [beq_eq_false_iff_ne]; omega
          have e45 : (x == 45) = false := by rw [beq_eq_false_iff_ne]; omega
          have e95 : (x == 95) = false := by rw [beq_eq_false_iff_ne]; omega
          have e47 : (x == 47) = false := by rw [beq_eq_false_iff_ne]; omega
          clear t0 hc
          go_wp2_with fail
          refine (HX.out _).mono ?_
          rintro _ w3 ⟨rfl, hb3⟩
          have HB3 := Lib.hid (HBX.out.trans (hb3.mono HBX.out.size))
          clear hb3
          go_wp2_with fail
          go_ret
          exact ⟨rfl, HB3.out⟩
        · subst hc
          go_wp2_with fail
          refine (HX.out _).mono ?_
          rintro _ w3 ⟨rfl, hb3⟩
          have HB3 := Lib.hid (HBX.out.trans (hb3.mono HBX.out.size))
          clear hb3
          go_wp2_with fail
          go_ret
          exact ⟨rfl, HB3.out⟩
        · subst hc
          go_wp2_with fail
          refine (HX.out _).mono ?_
          rintro _ w3 ⟨rfl, hb3⟩
          have HB3 := Lib.hid (HBX.out.trans (hb3.mono HBX.out.size))
          clear hb3
          go_wp2_with fail
          go_ret
          exact ⟨rfl, HB3.out⟩
        · subst hc
          go_wp2_with fail
          refine (HX.out _).mono ?_
          rintro _ w3 ⟨rfl, hb3⟩
          have HB3 := Lib.hid (HBX.out.trans (hb3.mono HBX.out.size))
          clear hb3
          go_wp2_with fail
          go_ret
          exact ⟨rfl, HB3.out⟩
        · have t0 := hc
          have d0 : decide (97 ≤ x) = false := decide_eq_false (by omega)
          have n0 : ¬ 97 ≤ x := by omega
          have d1 : x ≤ 122 := by omega
          have d2 : decide (48 ≤ x) = false := decide_eq_false (by omega)
          have n2 : ¬ 48 ≤ x := by omega
          have d3 : x ≤ 57 := by omega
          have e46 : (x == 46) = false := by rw [beq_eq_false_iff_ne]; omega
          have e45 : (x == 45) = false := by rw [beq_eq_false_iff_ne]; omega
          have e95 : (x == 95) = false := by rw [beq_eq_false_iff_ne]; omega
          have e47 : (x == 47) = false := by rw [beq_eq_false_iff_ne]; omega
          clear t0 hc
          go_wp2_with fail
          refine (HX.out _).mono ?_
          rintro _ w3 ⟨rfl, hb3⟩
          have HB3 := Lib.hid (HBX.out.trans (hb3.mono HBX.out.size))
          clear hb3
          go_wp2_with fail
          go_ret
          exact ⟨rfl, HB3.out⟩
end Go.Proofs.YtadponabbkbiaaaGreatDoor
