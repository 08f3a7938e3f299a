/-
  For any number, Print of package clock is as the document says, a time's text is read as that time, and the chapter's examples hold: no condition.
-/
import Derived.Test.YtljcbnjidjcagaaRows
import Derived.WalkKit
import Derived.ProofKit
import Derived.OpenShut
import Derived.ShutString
import Derived.ChangeOld
import Derived.Test.YtljcbnjidjcagaaBacks
namespace Go.Proofs.Ytljcbnjidjcagaa.clockPrint
open Go.ChangeShapes Go.WideShapes Go.ChangeAt Go.RowKit
open Go.ChangeMaps (open_string shut_string)
set_option linter.unusedVariables false
set_option linter.unusedSimpArgs false

theorem own : ownKnob Try.prog.godebug = none := by kernel_rfl

set_option maxHeartbeats 1000000 in
theorem walk (a0 : Int) (w0 : (Lit.int .i64 a0).wf = true) (w : World) :
    Calls Try.prog 5 #[.int .i64 a0] w fun e w' => e = .returned (.bool true) ∧ Below w.heap.size w w' := by
  by_cases h0 : a0 < 0
  · have HD := Lib.hid (fun W => print_no a0 W (.inl h0))
    go_enter Try.func5, Try.ntmps5
    go_wp2_with fail
    refine (HD.out _).mono ?_
    rintro e w' ⟨rfl, rfl⟩
    go_wp2_with fail
    refine (awake_c _).mono ?_
    rintro e w9 ⟨rfl, hb9⟩
    have B9 := Lib.hid hb9
    clear hb9
    go_wp2
    go_ret
    exact ⟨rfl, B9.out⟩
  by_cases h1 : 137438953472 < a0
  · have h0p : 0 ≤ a0 := by omega
    have HD := Lib.hid (fun W => print_no a0 W (.inr h1))
    go_enter Try.func5, Try.ntmps5
    go_wp2_with fail
    refine (HD.out _).mono ?_
    rintro e w' ⟨rfl, rfl⟩
    go_wp2_with fail
    refine (awake_c _).mono ?_
    rintro e w9 ⟨rfl, hb9⟩
    have B9 := Lib.hid hb9
    clear hb9
    go_wp2
    go_ret
    exact ⟨rfl, B9.out⟩
  have h0p : 0 ≤ a0 := by omega
  have h1p : a0 ≤ 137438953472 := by omega
  clear h0 h1
  have HD := Lib.hid (fun W => print_yes a0 W h0p h1p)
  have HR := Lib.hid (fun W => print_r a0 W h0p h1p)
  go_enter Try.func5, Try.ntmps5
  go_wp2_with fail
  refine (HD.out _).mono ?_
  rintro e w1 ⟨l, hl, rfl, hb1⟩
  have B1 := Lib.hid hb1
  have HL := Lib.hid hl
  have hsz : (mkS l).size ≤ 1000 := by obtain ⟨y, m, d, _, _, rfl⟩ := hl; rw [size_mkS, txt_len]; decide
  have HP := Lib.hid (fun W => parse_c (mkS l) W hsz)
  rw [data_mkS, (hl.par h1p).1, (hl.par h1p).2] at HP
  clear hb1 hl HD hsz
  go_wp2_with fail
  refine (HP.out _).mono ?_
  rintro e w2 ⟨rfl, hb2⟩
  have B2 := Lib.hid hb2
  clear hb2
  go_wp2_with fail
  refine (HR.out _).mono ?_
  rintro e w3 ⟨l', hl', rfl, hb3⟩
  obtain rfl := HL.out.one hl'
  have B3 := Lib.hid hb3
  clear hb3 hl' HR HP HL
  generalize mkS l = x
  go_wp2_with fail
  refine (awake_c _).mono ?_
  rintro e w9 ⟨rfl, hb9⟩
  have B9 := Lib.hid hb9
  clear hb9
  go_wp2
  go_ret
  have C2 := B1.out.trans (B2.out.mono B1.out.size)
  have C3 := C2.trans (B3.out.mono C2.size)
  exact ⟨rfl, C3.trans (B9.out.mono C3.size)⟩

set_option maxRecDepth 100000 in
theorem lifted (os : Os) (started : os.Started) (H : Type) (enc : TypeId × Value → H) :
    ReturnsInHanded {} Try.checked os 5 .any (Rows.clockPrintSpec.pre6 enc Try.prog Try.f5 Rows.clockPrintRow.domain false) (Rows.clockPrintSpec.post enc Try.prog Try.f5 false true false false) := by
  refine returnsInHanded_of_change (C := Try.checked) own started (by kernel_rfl) Try.func5
    (ChangeSpec.witness6 (enc := enc) (C := Try.checked) false ⟨#[], #[.int .i64 0], []⟩ 8 (by kernel_rfl) (by kernel_rfl) (by kernel_rfl) (by kernel_rfl)) ?_
  intro W base args ds gs before hval0 hW hcnd _
  have hval : ∀ (j : Nat) t v, Try.f5.params[j]? = some t → args[j]? = some v → Value.okWide Try.prog W .any base t v := hval0
  have hW' := hW
  obtain ⟨p, q, hA0, hV, rfl, hfz, hnd⟩ := hW
  have hA : DataW.TrodAll enc Try.prog W 0 (fun _ => true) true Try.f5.params.toList args.toList ds p := hA0
  rw [Try.params5] at hA hval
  obtain ⟨v0, vs0, d0, ds0, p0, q0, hargs, rfl, rfl, h0, r0⟩ := trodAll_cons hA
  obtain ⟨rfl, rfl, rfl⟩ := trodAll_nil r0
  obtain rfl : args = #[v0] := by cases args; simp_all
  obtain ⟨rfl, rfl⟩ := trodVars_none hV
  obtain ⟨a0, rfl, rfl, rfl, w0⟩ := open_int Try.underlying2 (hval 0 2 v0 rfl rfl) h0
  clear hA0 hval0
  refine (walk a0 w0 W).mono fun e W' ⟨he, bel⟩ => ?_
  subst he
  exact ⟨_, rfl, _, _, _, [], _, [], hW', trodAll_mk1 (shut_bool Try.underlying4 _), (trodAll_cons_mk (shut_int Try.underlying2 w0) trodAll_mk0), rfl, bel.frame _, fun h => by cases h⟩

theorem over : Rows.clockPrintRow.holds Try.pinned (OpenSpec.ofChange Rows.clockPrintSpec) :=
  OpenClaim.holds_of_wide 5 Try.f5 rfl rfl rfl rfl rfl rfl rfl ⟨rfl, rfl, rfl, rfl, rfl⟩ rfl rfl rfl rfl rfl (by kernel_rfl) Try.func5 (by kernel_rfl)
    (of_decide_eq_true (by kernel_rfl)) (by unfold Func.isWrapper; first | (rw [if_pos (by decide +kernel)]; kernel_rfl) | (rw [if_neg (by decide +kernel)]; exact ⟨rfl, rfl⟩))
    (fun os started H enc _ => lifted os started H enc)

end Go.Proofs.Ytljcbnjidjcagaa.clockPrint
namespace Go.Proofs.Ytljcbnjidjcagaa
theorem clockPrint_holds : Rows.ClockPrintSaid := clockPrint.over
#print axioms clockPrint_holds
end Go.Proofs.Ytljcbnjidjcagaa
