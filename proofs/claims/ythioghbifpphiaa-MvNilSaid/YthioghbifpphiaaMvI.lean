/- The law MvNil answers yes; no condition. -/
import Derived.Test.YthioghbifpphiaaMvH
namespace Go.Proofs.Ythioghbifpphiaa.Mv
open Go.RowKit Go.Lib Go.Maps
open Go.Proofs.Ythioghbifpphiaa.Cn
set_option linter.unusedSimpArgs false
set_option linter.unusedVariables false

set_option maxHeartbeats 1000000 in
theorem may_n (v : Value) (w : World) : Calls Try.prog 21 #[.pointer none, v] w fun e w' => e = .returned (.int .i64 2) ∧ w' = w := by
  go_enter Try.func21, Try.ntmps21
  go_wp2
  go_ret
  exact ⟨rfl, rfl⟩
set_option maxHeartbeats 1000000 in
theorem compact_n (q : Int) (w : World) : Calls Try.prog 22 #[.pointer none, .int .i64 q] w fun e w' => e = .returned (.int .i64 2) ∧ w' = w := by
  go_enter Try.func22, Try.ntmps22
  go_wp2
  go_ret
  exact ⟨rfl, rfl⟩
set_option maxHeartbeats 1000000 in
theorem rev_n (w : World) : Calls Try.prog 10 #[.pointer none] w fun e w' => e = .returned (.int .i64 0) ∧ w' = w := by
  go_enter Try.func10, Try.ntmps10
  go_wp2
  go_ret
  exact ⟨rfl, rfl⟩
set_option maxHeartbeats 1000000 in
theorem floor_n (w : World) : Calls Try.prog 12 #[.pointer none] w fun e w' => e = .returned (.int .i64 0) ∧ w' = w := by
  go_enter Try.func12, Try.ntmps12
  go_wp2
  go_ret
  exact ⟨rfl, rfl⟩
set_option maxHeartbeats 1000000 in
theorem keys_n (w : World) : Calls Try.prog 15 #[.pointer none] w fun e w' => e = .returned (.int .i64 0) ∧ w' = w := by
  go_enter Try.func15, Try.ntmps15
  go_wp2
  go_ret
  exact ⟨rfl, rfl⟩
set_option maxHeartbeats 1000000 in
theorem versions_n (w : World) : Calls Try.prog 13 #[.pointer none] w fun e w' => e = .returned (.int .i64 0) ∧ w' = w := by
  go_enter Try.func13, Try.ntmps13
  go_wp2
  go_ret
  exact ⟨rfl, rfl⟩
theorem get_n (key : ByteArray) (q : Int) (w : World) : Calls Try.prog 19 #[.pointer none, .string key, .int .i64 q] w fun e w' => e = .returned (.tuple #[.agg #[.string ⟨#[]⟩, .string ⟨#[]⟩, .int .i64 0], .int .i64 2]) ∧ Below w.heap.size w w' :=
  get_no (.pointer none) key q 2 w (by decide) (Lib.hid fun W _ => ref_nil q W)
set_option maxRecDepth 100000 in
set_option maxHeartbeats 1000000 in
theorem range_n (key after : ByteArray) (n q : Int) (w : World) : Calls Try.prog 16 #[.pointer none, .string key, .string after, .int .i64 n, .int .i64 q] w fun e w' => e = .returned (.tuple #[.slice none 0 0, .bool false, .int .i64 2]) ∧ Below w.heap.size w w' := by
  have HR := Lib.hid (fun W => ref_nil q W)
  go_enter Try.func16, Try.ntmps16
  go_wp2_with (go_at_call 29; (with_reducible refine (HR.out _).mono ?_); rintro e w1 ⟨rfl, rfl⟩)
  exact bodyPost_ret (v := .tuple #[.slice none 0 0, .bool false, .int .i64 2]) (by simp [results, Try.results16, go_sem]) rfl ⟨rfl, Below.refl _ _⟩
set_option maxRecDepth 100000 in
set_option maxHeartbeats 1000000 in
theorem commit_n (v : Value) (w : World) : Calls Try.prog 20 #[.pointer none, v] w fun e w' => e = .returned (.tuple #[.int .i64 0, .int .i64 2]) ∧ Below w.heap.size w w' := by
  have HR := Lib.hid (fun W => may_n v W)
  go_enter Try.func20, Try.ntmps20
  go_wp2_with (go_at_call 21; (with_reducible refine (HR.out _).mono ?_); rintro e w1 ⟨rfl, rfl⟩)
  exact bodyPost_ret (v := .tuple #[.int .i64 0, .int .i64 2]) (by simp [results, Try.results20, go_sem]) rfl ⟨rfl, Below.refl _ _⟩
set_option maxRecDepth 100000 in
set_option maxHeartbeats 8000000 in
theorem nil_law (key : ByteArray) (q : Int) (w : World) : Calls Try.prog 6 #[.string key, .int .i64 q] w fun e w' => e = .returned (.bool true) ∧ Below w.heap.size w w' := by
  have HG := Lib.hid (get_n key q w)
  have HR := Lib.hid (fun W => range_n key ⟨#[]⟩ 1 q W)
  have HC := Lib.hid (fun v W => commit_n v W)
  go_enter Try.func6, Try.ntmps6
  go_upto_region 3 with (go_at_call 19; (with_reducible refine HG.out.mono ?_); rintro e w1 ⟨rfl, hb1⟩; have HB1 := Lib.hid hb1; clear hb1)
  obtain ⟨W2, hW2, hk2, hb2⟩ := Cn.new3 w1 (.string ⟨#[]⟩) (.string ⟨#[]⟩) (.int .i64 0) 49
  have HW2 := Lib.hid hW2
  have HB2 := Lib.hid (btr HB1.out hb2)
  clear hW2 hk2 hb2
  rw [← HW2.out]
  go_upto_region 4 with (go_at_call 16; (with_reducible refine (HR.out _).mono ?_); rintro e w3 ⟨rfl, hb3⟩; have HB3 := Lib.hid (btr HB2.out hb3); clear hb3)
  obtain ⟨W4, hW4, hk4, hb4⟩ := Cn.new3 w3 (.string key) (.string ⟨#[]⟩) (.bool false) 57
  have HW4 := Lib.hid hW4
  have HB4 := Lib.hid (btr HB3.out hb4)
  clear hW4 hk4 hb4
  go_upto_region 5 with (go_at_call 20; rw [← HW4.out]; (with_reducible refine (HC.out _ W4).mono ?_); rintro e w5 ⟨rfl, hb5⟩; have HB5 := Lib.hid (btr HB4.out hb5); clear hb5)
  clear HG HR HC
  go_wp2_with (first
    | (go_at_call 21; (with_reducible refine (may_n _ _).mono ?_); rintro e u1 ⟨rfl, rfl⟩)
    | (go_at_call 22; (with_reducible refine (compact_n _ _).mono ?_); rintro e u2 ⟨rfl, rfl⟩)
    | (go_at_call 10; (with_reducible refine (rev_n _).mono ?_); rintro e u3 ⟨rfl, rfl⟩)
    | (go_at_call 12; (with_reducible refine (floor_n _).mono ?_); rintro e u4 ⟨rfl, rfl⟩)
    | (go_at_call 15; (with_reducible refine (keys_n _).mono ?_); rintro e u5 ⟨rfl, rfl⟩)
    | (go_at_call 13; (with_reducible refine (versions_n _).mono ?_); rintro e u6 ⟨rfl, rfl⟩)
    | (go_at_call 18; (with_reducible refine (awake_c _).mono ?_); rintro e V1 ⟨rfl, hbC⟩; have HBV := Lib.hid (btr HB5.out hbC); clear hbC))
  go_ret
  exact ⟨rfl, HBV.out⟩
end Go.Proofs.Ythioghbifpphiaa.Mv
