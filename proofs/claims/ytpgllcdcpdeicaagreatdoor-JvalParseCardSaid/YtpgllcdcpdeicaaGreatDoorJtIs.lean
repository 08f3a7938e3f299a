/- Contracts of the library's errors.Is at api.ErrNone: of no error, and of a fault of package jtok; no condition. -/
import Derived.Test.YtpgllcdcpdeicaaGreatDoorJtAs
namespace Go.Proofs.YtpgllcdcpdeicaaGreatDoor.Jt
open Go.RowKit Go.Extern.Stop Go.Stop Go.Extern
set_option linter.unusedSimpArgs false
set_option linter.unusedVariables false

theorem eqNil : ∀ W : World, (binOp .eql 41 .nilIface (.iface 26 (.int .i64 6))).run Tryz.prog W = .ok (.bool false) W := fun _ => by kernel_rfl
theorem eqFlt (a e : Int) : ∀ W : World, (binOp .eql 41 (.iface 124 (.agg #[.int .i64 a, .int .i64 e])) (.iface 26 (.int .i64 6))).run Tryz.prog W = .ok (.bool false) W := fun _ => by kernel_rfl
theorem eqErr (e : Int) : ∀ W : World, (binOp .eql 41 (.iface 26 (.int .i64 e)) (.iface 26 (.int .i64 6))).run Tryz.prog W = .ok (.bool (e == 6)) W := fun _ => by kernel_rfl
theorem is_nil (w : World) : Calls Tryz.prog 11 #[.nilIface, .iface 26 (.int .i64 6)] w fun e w' => e = .returned (.bool false) ∧ w = w' := by
  have h1 := eqNil
  go_enter Tryz.func11, Tryz.ntmps11
  go_wp2
  go_ret
  exact ⟨rfl, rfl⟩
theorem unwrap_c (a e : Int) (w : World) : Calls Tryz.prog 138 #[.agg #[.int .i64 a, .int .i64 e]] w fun r w' => r = .returned (.iface 26 (.int .i64 e)) ∧ Below w.heap.size w w' := by
  go_enter Tryz.func138, Tryz.ntmps138
  go_wp2
  go_ret
  exact ⟨rfl, by (repeat (first | exact Below.refl _ _ | refine Below.alloc ?_ (by first | (simp; done) | (simp; omega)) _ | refine Below.setCell ?_ (by first | (simp; done) | (simp; omega)) _))⟩
theorem typeOfE (v : Value) (w : World) : (ReflectliteType.typeOf #[.iface 26 v]).run Tryz.prog w = .ok (.iface 98 (.agg #[.pointer (some ⟨4, 26, none⟩)])) w := by kernel_rfl
theorem methodComparable (h : Value) (w : World) : (Go.method 312 98 (.agg #[h]) "Comparable").run Tryz.prog w = .ok (128, .agg #[h]) w := by kernel_rfl
theorem noIsF (v : Value) (w : World) : (Instr.typeAssert (.iface 124 v) 41 110 true).run Tryz.prog w = .ok (.tuple #[.nilIface, .bool false]) w := run_typeAssert_lacksB Tryz.underlying110 (by kernel_rfl) (by kernel_rfl) v 41 w
theorem uwF (v : Value) (w : World) : (Instr.typeAssert (.iface 124 v) 41 105 true).run Tryz.prog w = .ok (.tuple #[.iface 124 v, .bool true]) w := run_typeAssert_hasB Tryz.underlying105 (by kernel_rfl) v 41 w
theorem noIsE (v : Value) (w : World) : (Instr.typeAssert (.iface 26 v) 41 110 true).run Tryz.prog w = .ok (.tuple #[.nilIface, .bool false]) w := run_typeAssert_lacksB Tryz.underlying110 (by kernel_rfl) (by kernel_rfl) v 41 w
theorem noUwE (v : Value) (w : World) : (Instr.typeAssert (.iface 26 v) 41 105 true).run Tryz.prog w = .ok (.tuple #[.nilIface, .bool false]) w := run_typeAssert_lacksB Tryz.underlying105 (by kernel_rfl) (by kernel_rfl) v 41 w
theorem noUwsE (v : Value) (w : World) : (Instr.typeAssert (.iface 26 v) 41 107 true).run Tryz.prog w = .ok (.tuple #[.nilIface, .bool false]) w := run_typeAssert_lacksB Tryz.underlying107 (by kernel_rfl) (by kernel_rfl) v 41 w
theorem methodUnwrap (x y : Value) (w : World) : (Go.method 312 124 (.agg #[x, y]) "Unwrap").run Tryz.prog w = .ok (138, .agg #[x, y]) w := by kernel_rfl
theorem cmpE : ∀ w : World, (callFunc 128 #[.agg #[.pointer (some ⟨4, 26, none⟩)]]).run Tryz.prog w = .ok (.value (.bool true)) w := fun _ => by kernel_rfl
set_option maxRecDepth 100000 in
set_option maxHeartbeats 8000000 in
theorem is_flt (a e : Int) (b : Bool) (hb : (e == 6) = b) (w : World) : Calls Tryz.prog 11 #[.iface 124 (.agg #[.int .i64 a, .int .i64 e]), .iface 26 (.int .i64 6)] w fun r w' => r = .returned (.bool b) ∧ Below w.heap.size w w' := by
  have h10 := @run_callFunc_extern Tryz.prog 23 _ ReflectliteType.typeOf Tryz.func23 (by kernel_rfl) (by kernel_rfl) (by kernel_rfl) (by kernel_rfl)
  have tO := typeOfE
  have mC := methodComparable
  have c32 := cmpE
  have h1 := eqFlt a e
  have h2 := eqErr e
  rw [hb] at h2
  have n1 := noIsF
  have n2 := uwF
  have n3 := noIsE
  have n4 := noUwE
  have n5 := noUwsE
  have mU := methodUnwrap
  clear hb
  cases b with
  | true =>
    go_enter Tryz.func11, Tryz.ntmps11
    go_wp2
    refine wp_loop_rounds 2 ?_
    rw [rounds_succ]
    go_wp2_with (go_at_call 138; refine (unwrap_c _ _ _).mono ?_; rintro e w1 ⟨rfl, hb1⟩; have HB1 := Lib.hid hb1; clear hb1)
    rw [rounds_succ]
    go_wp2
    go_ret
    exact ⟨rfl, HB1.out⟩
  | false =>
    go_enter Tryz.func11, Tryz.ntmps11
    go_wp2
    refine wp_loop_rounds 2 ?_
    rw [rounds_succ]
    go_wp2_with (go_at_call 138; refine (unwrap_c _ _ _).mono ?_; rintro e w1 ⟨rfl, hb1⟩; have HB1 := Lib.hid hb1; clear hb1)
    rw [rounds_succ]
    go_wp2
    go_ret
    exact ⟨rfl, HB1.out⟩
end Go.Proofs.YtpgllcdcpdeicaaGreatDoor.Jt
