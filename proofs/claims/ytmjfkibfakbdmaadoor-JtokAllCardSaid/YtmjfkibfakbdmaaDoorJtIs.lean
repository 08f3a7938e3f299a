/- Contracts of the library's errors.Is at api.ErrNone: of no error, and of a fault of package jtok; no condition. -/
import Derived.Test.YtmjfkibfakbdmaaDoorJtAs
namespace Go.Proofs.YtmjfkibfakbdmaaDoor.Jt
open Go.RowKit Go.Extern.Stop Go.Stop Go.Extern
set_option linter.unusedSimpArgs false
set_option linter.unusedVariables false

theorem eqNil : ∀ W : World, (binOp .eql 48 .nilIface (.iface 25 (.int .i64 6))).run Tryd.prog W = .ok (.bool false) W := fun _ => by kernel_rfl
theorem eqFlt (a e : Int) : ∀ W : World, (binOp .eql 48 (.iface 52 (.agg #[.int .i64 a, .int .i64 e])) (.iface 25 (.int .i64 6))).run Tryd.prog W = .ok (.bool false) W := fun _ => by kernel_rfl
theorem eqErr (e : Int) : ∀ W : World, (binOp .eql 48 (.iface 25 (.int .i64 e)) (.iface 25 (.int .i64 6))).run Tryd.prog W = .ok (.bool (e == 6)) W := fun _ => by kernel_rfl
theorem is_nil (w : World) : Calls Tryd.prog 25 #[.nilIface, .iface 25 (.int .i64 6)] w fun e w' => e = .returned (.bool false) ∧ w = w' := by
  have h1 := eqNil
  go_enter Tryd.func25, Tryd.ntmps25
  go_wp2
  go_ret
  exact ⟨rfl, rfl⟩
theorem unwrap_c (a e : Int) (w : World) : Calls Tryd.prog 125 #[.agg #[.int .i64 a, .int .i64 e]] w fun r w' => r = .returned (.iface 25 (.int .i64 e)) ∧ Below w.heap.size w w' := by
  go_enter Tryd.func125, Tryd.ntmps125
  go_wp2
  go_ret
  exact ⟨rfl, by (repeat (first | exact Below.refl _ _ | refine Below.alloc ?_ (by first | (simp; done) | (simp; omega)) _ | refine Below.setCell ?_ (by first | (simp; done) | (simp; omega)) _))⟩
theorem typeOfE (v : Value) (w : World) : (ReflectliteType.typeOf #[.iface 25 v]).run Tryd.prog w = .ok (.iface 102 (.agg #[.pointer (some ⟨7, 25, none⟩)])) w := by kernel_rfl
theorem methodComparable (h : Value) (w : World) : (Go.method 288 102 (.agg #[h]) "Comparable").run Tryd.prog w = .ok (132, .agg #[h]) w := by kernel_rfl
theorem noIsF (v : Value) (w : World) : (Instr.typeAssert (.iface 52 v) 48 114 true).run Tryd.prog w = .ok (.tuple #[.nilIface, .bool false]) w := run_typeAssert_lacksB Tryd.underlying114 (by kernel_rfl) (by kernel_rfl) v 48 w
theorem uwF (v : Value) (w : World) : (Instr.typeAssert (.iface 52 v) 48 109 true).run Tryd.prog w = .ok (.tuple #[.iface 52 v, .bool true]) w := run_typeAssert_hasB Tryd.underlying109 (by kernel_rfl) v 48 w
theorem noIsE (v : Value) (w : World) : (Instr.typeAssert (.iface 25 v) 48 114 true).run Tryd.prog w = .ok (.tuple #[.nilIface, .bool false]) w := run_typeAssert_lacksB Tryd.underlying114 (by kernel_rfl) (by kernel_rfl) v 48 w
theorem noUwE (v : Value) (w : World) : (Instr.typeAssert (.iface 25 v) 48 109 true).run Tryd.prog w = .ok (.tuple #[.nilIface, .bool false]) w := run_typeAssert_lacksB Tryd.underlying109 (by kernel_rfl) (by kernel_rfl) v 48 w
theorem noUwsE (v : Value) (w : World) : (Instr.typeAssert (.iface 25 v) 48 111 true).run Tryd.prog w = .ok (.tuple #[.nilIface, .bool false]) w := run_typeAssert_lacksB Tryd.underlying111 (by kernel_rfl) (by kernel_rfl) v 48 w
theorem methodUnwrap (x y : Value) (w : World) : (Go.method 288 52 (.agg #[x, y]) "Unwrap").run Tryd.prog w = .ok (125, .agg #[x, y]) w := by kernel_rfl
theorem cmpE : ∀ w : World, (callFunc 132 #[.agg #[.pointer (some ⟨7, 25, none⟩)]]).run Tryd.prog w = .ok (.value (.bool true)) w := fun _ => by kernel_rfl
set_option maxRecDepth 100000 in
set_option maxHeartbeats 8000000 in
theorem is_flt (a e : Int) (b : Bool) (hb : (e == 6) = b) (w : World) : Calls Tryd.prog 25 #[.iface 52 (.agg #[.int .i64 a, .int .i64 e]), .iface 25 (.int .i64 6)] w fun r w' => r = .returned (.bool b) ∧ Below w.heap.size w w' := by
  have h10 := @run_callFunc_extern Tryd.prog 48 _ ReflectliteType.typeOf Tryd.func48 (by kernel_rfl) (by kernel_rfl) (by kernel_rfl) (by kernel_rfl)
  have tO := typeOfE
  have mC := methodComparable
  have c32 := cmpE
  have h1 := eqFlt a e
  have h2 := eqErr e
  rw [hb] at h2
  have n1 := noIsF
  have n2 := uwF
  have n3 := noIsE
  have n4 := noUwE
  have n5 := noUwsE
  have mU := methodUnwrap
  clear hb
  cases b with
  | true =>
    go_enter Tryd.func25, Tryd.ntmps25
    go_wp2
    refine wp_loop_rounds 2 ?_
    rw [rounds_succ]
    go_wp2_with (go_at_call 125; refine (unwrap_c _ _ _).mono ?_; rintro e w1 ⟨rfl, hb1⟩; have HB1 := Lib.hid hb1; clear hb1)
    rw [rounds_succ]
    go_wp2
    go_ret
    exact ⟨rfl, HB1.out⟩
  | false =>
    go_enter Tryd.func25, Tryd.ntmps25
    go_wp2
    refine wp_loop_rounds 2 ?_
    rw [rounds_succ]
    go_wp2_with (go_at_call 125; refine (unwrap_c _ _ _).mono ?_; rintro e w1 ⟨rfl, hb1⟩; have HB1 := Lib.hid hb1; clear hb1)
    rw [rounds_succ]
    go_wp2
    go_ret
    exact ⟨rfl, HB1.out⟩
end Go.Proofs.YtmjfkibfakbdmaaDoor.Jt
