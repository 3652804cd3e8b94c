/-
 Contracts of the program, and what they rest on.
-/
import Derived.Test.YtoealjcjpjapkaaGreatDoorM33
import Derived.Test.YtoealjcjpjapkaaGreatDoorM18
import Derived.Test.YtoealjcjpjapkaaGreatDoorRA
import Derived.Test.YtoealjcjpjapkaaGreatDoorRefDb
import Derived.Test.YtoealjcjpjapkaaGreatDoorRefDv
import Derived.Test.YtoealjcjpjapkaaGreatDoorRefP
set_option maxRecDepth 100000
set_option maxHeartbeats 16000000
namespace Go.Proofs.YtoealjcjpjapkaaGreatDoor
open Go.RowKit
theorem ldtells_p (t : ByteArray) (hs : t.size ≤ 9223372036854775807) (w : World) (hlib : LibAt w) :
  Calls Tryz.prog 30 #[.string t] w fun e w' => e = .returned (.bool true) ∧ Below w.heap.size w w' := by
 have HG := Lib.hid (dget_p t hs w hlib)
 clear hlib
 go_enter Tryz.func30, Tryz.ntmps30
 go_wp2_with fail
 refine HG.out.mono ?_
 rintro _ w1 ⟨⟨r, rfl, hr⟩, hb1⟩
 cases r with
 | none =>
  have HB1 := Lib.hid (hb1.alloc hb1.size (.cells #[.int .i64 0, .string ⟨#[]⟩, .string ⟨#[]⟩, .int .i64 0, .int .i64 0, .string ⟨#[]⟩, .int .i64 0, .int .i64 0] 23))
  clear hb1 hr
  unfold dagg De.zero
  go_wp2_with fail
  go_ret
  exact ⟨rfl, HB1.out⟩
 | some d =>
  obtain ⟨hm, hwf, ht⟩ := (hr d).1 rfl
  have HM := Lib.hid (rmay_p d true ⟨fun _ => hm, fun _ => rfl⟩ (by have := (mayD_bd hm).1; omega))
  have HV := Lib.hid (rval_p d)
  have hbd := mayD_bd hm
  have HP := Lib.hid (fun ad cap W h => rPut_p 3 0 ⟨#[]⟩ d.parts ad cap W d.vmay ⟨by decide, by decide⟩ (De.parts_wf hwf) (De.putV_pos hwf (by omega) (by omega) (by omega)) h)
  rw [← ht] at HP
  have hb1' : Below w.heap.size w (w1.alloc (.cells #[.int .i64 d.kind, .string d.key, .string d.body, .int .i64 d.ver, .int .i64 d.cond, .string d.tag, .int .i64 d.req, .int .i64 d.low] 23)) := hb1.alloc hb1.size _
  have HB1 := Lib.hid hb1'
  have HD := Lib.hid (DeC.new w1 d 23)
  have hs1 : w.heap.size ≤ w1.heap.size := hb1.size
  clear hr hm hwf ht hbd hb1 hb1'
  have q0 := HD.out
  obtain ⟨kind, key, body, ver, cond, tag, req, low⟩ := d
  rw [De.parts_len] at HP
  generalize De.parts ⟨kind, key, body, ver, cond, tag, req, low⟩ = F0 at *
  unfold dagg at *
  dsimp only at *
  go_wp2_with fail
  generalize w1.alloc (.cells #[.int .i64 kind, .string key, .string body, .int .i64 ver, .int .i64 cond, .string tag, .int .i64 req, .int .i64 low] 23) = W1 at *
  refine (HM.out W1).mono ?_
  rintro _ w2 ⟨rfl, hb2⟩
  obtain ⟨d0, d1, d2, d3, d4, d5, d6, d7⟩ := HD.out.below hb2
  dsimp only at d0 d1 d2 d3 d4 d5 d6 d7
  have HB2 := Lib.hid (HB1.out.trans (hb2.mono HB1.out.size))
  clear hb2 q0
  go_wp2_with fail
  refine (HV.out _).mono ?_
  rintro _ w3 ⟨hb3, ad, cap, rfl, hg⟩
  have HB3 := Lib.hid (HB2.out.trans (hb3.mono HB2.out.size))
  have HG3 := Lib.hid hg.repS
  clear hb3 hg
  go_wp2_with fail
  refine (HP.out _ _ _ HG3.out).mono ?_
  rintro _ w4 ⟨rfl, hb4⟩
  have HB4 := Lib.hid (HB3.out.trans (hb4.mono HB3.out.size))
  clear hb4
  go_wp2_with fail
  go_ret
  exact ⟨rfl, HB4.out⟩
end Go.Proofs.YtoealjcjpjapkaaGreatDoor
