/- The contract of the statements' awake; where the library's variable MaxLen holds a number. -/
import Derived.Test.YtdgjhbonldfgpaaDoorHdParse
namespace Go.Proofs.YtdgjhbonldfgpaaDoor.Hd
open Go.RowKit Ch
set_option linter.unusedSimpArgs false
set_option linter.unusedVariables false

theorem stood : Tryd.prog.stoodInHeld 44 = false := by kernel_rfl
set_option maxRecDepth 100000 in
set_option maxHeartbeats 4000000 in
theorem awake_c (w : World) (hM : Mx w) : Calls Tryd.prog 8 #[] w fun e w' => e = .returned (.bool true) ∧ Below w.heap.size w w' := by
  have HP := Lib.hid (Parse_ex w hM)
  unfold exT at HP
  have hs := stood
  clear hM
  go_enter Tryd.func8, Tryd.ntmps8
  go_wp2_with fail
  refine HP.out.mono ?_
  rintro e w1 ⟨ao, c, rfl, hO, hb1⟩
  obtain ⟨f, rfl, hfl, hfB, hc1, f0, f1⟩ := owf_at hO
  have HB1 := Lib.hid hb1
  have hsz := hb1.size
  have hnf : f ≠ w1.heap.size := by omega
  clear hO hb1
  go_wp2
  go_ret
  exact ⟨rfl, HB1.out.alloc hsz _⟩
end Go.Proofs.YtdgjhbonldfgpaaDoor.Hd
