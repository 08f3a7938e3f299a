/- The law ChainNil answers yes; no other condition. -/
import Derived.Test.YtfilammedofdoaaCnO
namespace Go.Proofs.Ytfilammedofdoaa.Cn
open Go.RowKit Go.Lib Go.Shelf Go.Sort
set_option linter.unusedSimpArgs false
set_option linter.unusedVariables false

theorem at_nil (rev : Int) (w : World) : Calls Try.prog 9 #[.pointer none, .int .i64 rev] w fun e w' => e = .returned (.tuple #[.agg #[.int .i64 0, .string ⟨#[]⟩, .bool false], .bool false]) ∧ Below w.heap.size w w' := At_nil rev w
theorem last_nil (w : World) : Calls Try.prog 11 #[.pointer none] w fun e w' => e = .returned (.tuple #[.agg #[.int .i64 0, .string ⟨#[]⟩, .bool false], .bool false]) ∧ Below w.heap.size w w' := Last_nil w
theorem put_nil (r : Int) (w : World) : Calls Try.prog 17 #[.pointer none, .agg #[.int .i64 r, .string ⟨#[]⟩, .bool false]] w fun e w' => e = .returned (.int .i64 2) ∧ Below w.heap.size w w' := Put_nil (r, ⟨#[]⟩, false) w
set_option maxRecDepth 100000 in
set_option maxHeartbeats 4000000 in
theorem nil_law (a0 : Int) (w : World) : Calls Try.prog 5 #[.int .i64 a0] w fun e w' => e = .returned (.bool true) ∧ Below w.heap.size w w' := by
  go_enter Try.func5, Try.ntmps5
  go_wp2_with fail
  refine (at_nil a0 w).mono ?_
  rintro e w1 ⟨rfl, hb⟩
  obtain ⟨W1, hW1, hk1, hb1⟩ := new3 w1 (.int .i64 0) (.string ⟨#[]⟩) (.bool false) 33
  have HW1 := Lib.hid hW1
  have HB1 : Hid (Below w.heap.size w W1) := hb.trans (hb1.mono hb.size)
  clear hb hW1 hk1 hb1
  go_wp2_with fail
  rw [← HW1.out]
  refine (last_nil W1).mono ?_
  rintro e w2 ⟨rfl, hb⟩
  obtain ⟨W2, hW2, hk2, hb2⟩ := new3 w2 (.int .i64 0) (.string ⟨#[]⟩) (.bool false) 33
  have HW2 := Lib.hid hW2
  have HB2 : Hid (Below w.heap.size w W2) := (HB1.out.trans (hb.mono HB1.out.size)).trans (hb2.mono (HB1.out.trans (hb.mono HB1.out.size)).size)
  clear hb hW2 hk2 hb2
  go_wp2_with fail
  rw [← HW2.out]
  refine (put_nil a0 W2).mono ?_
  rintro e w3 ⟨rfl, hb⟩
  have HB3 : Hid (Below w.heap.size w w3) := HB2.out.trans (hb.mono HB2.out.size)
  clear hb
  go_wp2_with fail
  refine (Compact_nil a0 w3).mono ?_
  rintro e w4 ⟨rfl, hb⟩
  have HB4 : Hid (Below w.heap.size w w4) := HB3.out.trans (hb.mono HB3.out.size)
  clear hb
  go_wp2_with fail
  refine (Spare_nil a0 w4).mono ?_
  rintro e w5 ⟨rfl, hb⟩
  have HB5 : Hid (Below w.heap.size w w5) := HB4.out.trans (hb.mono HB4.out.size)
  clear hb
  go_wp2_with fail
  refine (Len_nil w5).mono ?_
  rintro e w6 ⟨rfl, rfl⟩
  go_wp2_with fail
  refine (All_nil w6).mono ?_
  rintro e w7 ⟨v, rfl, ⟨ao, cap, rfl, _⟩, hb⟩
  have HB7 : Hid (Below w.heap.size w w7) := HB5.out.trans (hb.mono HB5.out.size)
  clear hb
  go_wp2_with fail
  refine (awake_c w7).mono ?_
  rintro e w8 ⟨rfl, hb⟩
  have HB8 : Hid (Below w.heap.size w w8) := HB7.out.trans (hb.mono HB7.out.size)
  clear hb
  go_wp2
  go_ret
  exact ⟨rfl, HB8.out⟩
end Go.Proofs.Ytfilammedofdoaa.Cn
