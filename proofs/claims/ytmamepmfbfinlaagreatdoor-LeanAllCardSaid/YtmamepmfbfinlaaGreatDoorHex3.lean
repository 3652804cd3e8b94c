/-
  The contract of strconv's ParseUint at base 16 and 32 bits, of texts of eight bytes.
-/
import Derived.Test.YtmamepmfbfinlaaGreatDoorHex1
import Derived.Shelf.Strconv.Lower
import Derived.Lib.Strings
import Derived.Lib.Walk
import Derived.Lib.ConvBytes
import Derived.Lib.AtoiAllMem
import Derived.Laws.Strings3
import Derived.Laws.Closers25
import Derived.Laws.Closers25b
import Derived.BigCall
import Derived.BigGuard
namespace Go.Proofs.YtmamepmfbfinlaaGreatDoor
open Go.RowKit

/-- A digit of base 16, capital ones too. -/
def hexd (c : UInt8) : Option Nat :=
  if 48 ≤ c.toNat ∧ c.toNat ≤ 57 then some (c.toNat - 48) else if 97 ≤ c.toNat ∧ c.toNat ≤ 102 then some (c.toNat - 87) else if 65 ≤ c.toNat ∧ c.toNat ≤ 70 then some (c.toNat - 55) else none

def hexP (acc : Nat) : List UInt8 → Option Nat
  | [] => some acc
  | c :: l => (hexd c).bind fun d => hexP (acc * 16 + d) l

/-- The number, or the library's error of form. -/
def uintT : Option Nat → Value
  | some n => .tuple #[.int .u64 n, .nilIface]
  | none => .tuple #[.int .u64 0, .iface 123 (.int .i64 2)]

theorem lower_any (c : Int) (w : World) : Calls Tryz.prog 89 #[.int .u8 c] w fun e w' => e = .returned (.int .u8 (bits .or .u8 c 32)) ∧ w = w' := by
  go_enter Tryz.func89, Tryz.ntmps89
  go_wp2
  go_ret
  exact ⟨rfl, rfl⟩

theorem or32_small : ∀ c : Fin 256, 97 ≤ c.val ∧ c.val ≤ 102 → bits .or .u8 (c.val : Int) 32 = c.val := by decide +kernel
theorem or32_great : ∀ c : Fin 256, 65 ≤ c.val ∧ c.val ≤ 70 → bits .or .u8 (c.val : Int) 32 = c.val + 32 := by decide +kernel

theorem or32_other : ∀ c : Fin 256, ¬ (97 ≤ c.val ∧ c.val ≤ 102) → ¬ (65 ≤ c.val ∧ c.val ≤ 70) → ¬ (48 ≤ c.val ∧ c.val ≤ 57) → (bits .or .u8 (c.val : Int) 32 < 97 ∨ 103 ≤ bits .or .u8 (c.val : Int) 32) := by decide +kernel

theorem pow16 (k : Nat) (h : k ≤ 7) : 16 ^ k ≤ 268435456 := Nat.le_trans (Nat.pow_le_pow_right (by decide) h) (by decide)

set_option maxHeartbeats 4000000 in
set_option maxRecDepth 100000 in
theorem ipuint16 (t : ByteArray) (h8 : t.size = 8) (w : World) :
    Calls Tryz.prog 78 #[.string t, .int .i64 16, .int .i64 32] w fun e w' => e = .returned (uintT (hexP 0 t.data.toList)) ∧ w' = Lib.bytesWorld w 5 t := by
  have hemp : t.toList.isEmpty = false := by
    rw [← decide_eq_emptyBytes]
    exact decide_eq_false (fun h => by rw [h] at h8; cases h8)
  have hcv := Lib.run_convert_string_bytes (P := Tryz.prog) w 9 56 5 t (u := .string) Tryz.underlying9 Tryz.underlying56 Tryz.underlying5
  have hB : ∀ j, j < t.size → (Lib.bytesWorld w 5 t).cell? ⟨w.heap.size, j, none⟩ = some (.int .u8 (t.data.toList.getD j 0).toNat) := fun j hj => Lib.bytesWorld_cell w 5 t j hj
  obtain ⟨W1, hW1⟩ : ∃ W1, W1 = Lib.bytesWorld w 5 t := ⟨_, rfl⟩
  rw [← hW1] at hcv hB ⊢
  clear hW1
  obtain ⟨bs, hL⟩ : ∃ bs, bs = t.data.toList := ⟨_, rfl⟩
  have hLn : bs.length = t.size := by rw [hL, Lib.size_eq]
  rw [← hL] at hB ⊢
  clear hL
  have hmv : IntKind.u64.wrap (IntKind.u64.wrap 4294967296 - 1) = 4294967295 := by
    rw [IntKind.wrap_u64, IntKind.wrap_u64]
    decide
  go_enter Tryz.func78, Tryz.ntmps78
  go_wp2
  go_loop [12, 13, 101] (fun vu vn vi => ∃ (k acc : Nat) (a : Int), vu = .bool false ∧ vn = .int .u64 a ∧ vi = .int .i64 k ∧ k ≤ t.size ∧ Hid (a = (acc : Int) ∧ acc < 16 ^ k ∧ hexP 0 bs = hexP acc (bs.drop k)))
    (fun _ _ vi => t.size - (intOf vi).toNat)
  case atStart => exact ⟨0, 0, 0, rfl, rfl, rfl, by omega, rfl, by decide, rfl⟩
  case round =>
    obtain ⟨k, acc, a, rfl, rfl, rfl, hk, hh⟩ := hrel
    obtain ⟨ha, hacc, hdec⟩ := hh.out
    clear hh
    by_cases hkn : k < t.size
    · have hc := hB k hkn
      have hdrop : bs.drop k = bs[k]'(by omega) :: bs.drop (k + 1) := List.drop_eq_getElem_cons (by omega)
      have hget : bs.getD k 0 = bs[k]'(by omega) := by simp [List.getD, List.getElem?_eq_getElem (show k < bs.length by omega)]
      rw [hdrop] at hdec
      rw [hget] at hc
      generalize bs[k]'(by omega) = c at hc hdec
      have hc256 : c.toNat < 256 := c.toNat_lt
      have hp := pow16 k (by omega)
      have hacc28 : acc < 268435456 := by omega
      have a0 : 0 ≤ a := by omega
      have a1 : a < 268435456 := by omega
      have ps : (16 : Nat) ^ (k + 1) = 16 ^ k * 16 := Nat.pow_succ ..
      generalize (16 : Nat) ^ (k + 1) = p2 at ps
      clear hB hdrop hget
      have step : ∀ d : Nat, hexd c = some d → d < 16 → Hid (a * 16 + (d : Int) = ((acc * 16 + d : Nat) : Int) ∧ acc * 16 + d < 16 ^ (k + 1) ∧ hexP 0 bs = hexP (acc * 16 + d) (bs.drop (k + 1))) := by
        intro d hd hd16
        refine Lib.hid ⟨by omega, ?_, ?_⟩
        · rw [Nat.pow_succ]; omega
        · rw [hdec]
          show (hexd c).bind _ = _
          rw [hd]; rfl
      clear ps hp
      by_cases hdig : 48 ≤ c.toNat ∧ c.toNat ≤ 57
      · obtain ⟨hd0, hd1⟩ := hdig
        have HN := step (c.toNat - 48) (by unfold hexd; rw [if_pos ⟨hd0, hd1⟩]) (by omega)
        have e48 : ((c.toNat - 48 : Nat) : Int) = (c.toNat : Int) - 48 := by omega
        rw [e48] at HN
        clear step hdec ha hacc e48
        go_wp2
        refine ⟨⟨k + 1, acc * 16 + (c.toNat - 48), a * 16 + ((c.toNat : Int) - 48), rfl, (by first | rfl | (congr 1; omega)), (by first | rfl | (congr 1; omega)), by omega, HN⟩, by simp [intOf]; omega⟩
      · by_cases hlow : 97 ≤ c.toNat ∧ c.toNat ≤ 102
        · obtain ⟨hd0, hd1⟩ := hlow
          have HN := step (c.toNat - 87) (by unfold hexd; rw [if_neg hdig, if_pos ⟨hd0, hd1⟩]) (by omega)
          have e48 : ((c.toNat - 87 : Nat) : Int) = (c.toNat : Int) - 97 + 10 := by omega
          rw [e48] at HN
          have ho := or32_small ⟨c.toNat, hc256⟩ ⟨hd0, hd1⟩
          simp only at ho
          have hd' : ¬ (c.toNat : Int) ≤ 57 := by omega
          have hd'' : ((c.toNat : Int) == 95) = false := by rw [beq_eq_false_iff_ne]; omega
          clear step hdec ha hacc e48 hdig
          go_wp2_with (go_at_call 89; refine (lower_any _ _).mono ?_; rintro e w' ⟨rfl, rfl⟩)
          refine ⟨⟨k + 1, acc * 16 + (c.toNat - 87), a * 16 + ((c.toNat : Int) - 97 + 10), rfl, (by first | rfl | (congr 1; omega)), (by first | rfl | (congr 1; omega)), by omega, HN⟩, by simp [intOf]; omega⟩
        · by_cases hup : 65 ≤ c.toNat ∧ c.toNat ≤ 70
          · obtain ⟨hd0, hd1⟩ := hup
            have HN := step (c.toNat - 55) (by unfold hexd; rw [if_neg hdig, if_neg hlow, if_pos ⟨hd0, hd1⟩]) (by omega)
            have e48 : ((c.toNat - 55 : Nat) : Int) = (c.toNat : Int) + 32 - 97 + 10 := by omega
            rw [e48] at HN
            have ho := or32_great ⟨c.toNat, hc256⟩ ⟨hd0, hd1⟩
            simp only at ho
            have hd' : ¬ (c.toNat : Int) ≤ 57 := by omega
            have hd'' : ((c.toNat : Int) == 95) = false := by rw [beq_eq_false_iff_ne]; omega
            clear step hdec ha hacc e48 hdig hlow
            go_wp2_with (go_at_call 89; refine (lower_any _ _).mono ?_; rintro e w' ⟨rfl, rfl⟩)
            refine ⟨⟨k + 1, acc * 16 + (c.toNat - 55), a * 16 + ((c.toNat : Int) + 32 - 97 + 10), rfl, (by first | rfl | (congr 1; omega)), (by first | rfl | (congr 1; omega)), by omega, HN⟩, by simp [intOf]; omega⟩
          · have hF : hexP acc (c :: bs.drop (k + 1)) = none := by
              show (hexd c).bind _ = _
              unfold hexd
              rw [if_neg hdig, if_neg hlow, if_neg hup]; rfl
            rw [hF] at hdec
            have hv0 := bits_lo_u8 .or (c.toNat : Int) 32
            have hv1 := bits_hi_u8 .or (c.toNat : Int) 32
            have hv2 := or32_other ⟨c.toNat, hc256⟩ (fun h => hlow h) (fun h => hup h) (fun h => hdig h)
            simp only at hv2
            have hu0 := bits_lo_u8 .or 95 32
            have hu1 := bits_hi_u8 .or 95 32
            have hu2 := or32_other 95 (by decide) (by decide) (by decide)
            clear step hF ha hacc
            go_wp2_with (go_at_call 89; refine (lower_any _ _).mono ?_; rintro e w' ⟨rfl, rfl⟩)
            all_goals go_ret2
            all_goals first | exact ⟨rfl, rfl⟩ | exact ⟨by rw [hdec]; rfl, rfl⟩
    · -- the bytes are at an end
      have hkk : k = t.size := by omega
      subst hkk
      have hF : hexP acc (bs.drop t.size) = some acc := by rw [List.drop_eq_nil_of_le (by omega)]; rfl
      rw [hF] at hdec
      subst ha
      clear hacc hF
      go_wp2
      go_ret2
      exact ⟨rfl, rfl⟩

end Go.Proofs.YtmamepmfbfinlaaGreatDoor
