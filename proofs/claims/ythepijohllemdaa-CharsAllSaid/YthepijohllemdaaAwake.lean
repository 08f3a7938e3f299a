/- The chapter's own example holds: awake returns true, and makes new memory alone; no condition. -/
import Derived.Test.YthepijohllemdaaFields
namespace Go.Proofs.Ythepijohllemdaa
open Go.RowKit
set_option linter.unusedSimpArgs false
set_option linter.unusedVariables false

theorem aw_fields : fieldsL (44 : Int).toNat.toUInt8 [97, 44, 32, 44, 98] = [[97], [98]] := by decide +kernel
theorem aw_call (w : World) : Calls Try.prog 23 #[.string ⟨#[97, 44, 32, 44, 98]⟩, .int .u8 44] w (Owned w.heap.size [[97], [98]] w) := by
  have h := fields_c ⟨#[97, 44, 32, 44, 98]⟩ 44 w (by decide)
  have e : (ByteArray.mk #[97, 44, 32, 44, 98]).data.toList = [97, 44, 32, 44, 98] := rfl
  rw [e, aw_fields] at h
  exact h
theorem tok126 : tokB 126 = true := by decide +kernel
theorem tok40 : tokB 40 = false := by decide +kernel

set_option maxHeartbeats 1000000 in
theorem awake_c (w : World) : Calls Try.prog 17 #[] w fun e w' => e = .returned (.bool true) ∧ Below w.heap.size w w' := by
  have h1 := Lib.hid (aw_call w)
  go_enter Try.func17, Try.ntmps17
  go_wp2_with fail
  refine h1.out.mono ?_
  rintro e w1 ⟨v, rfl, hO, hb⟩
  obtain ⟨g, cap, rfl⟩ := Joins.ownsRow_form hO (by decide)
  have c0 : w1.cell? ⟨g, 0, none⟩ = some (.string (mkS [97])) := hO.cellAt 0 (by decide)
  have c1 : w1.cell? ⟨g, 1, none⟩ = some (.string (mkS [98])) := hO.cellAt 1 (by decide)
  have HB := Lib.hid hb
  clear hO hb h1
  have t1 := tok126
  have t2 := tok40
  have e1 : (mkS [97]).toList = [97] := str_empty _
  have e2 : (mkS [98]).toList = [98] := str_empty _
  go_wp2_with (go_at_call 7; refine (tok_c _ _ (by decide) (by decide)).mono ?_; rintro e w' ⟨rfl, rfl⟩)
  go_ret
  exact ⟨rfl, HB.out⟩
end Go.Proofs.Ythepijohllemdaa
