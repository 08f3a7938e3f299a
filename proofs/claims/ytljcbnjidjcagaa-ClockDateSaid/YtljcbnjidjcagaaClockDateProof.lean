/-
  For any number, Date of package clock is as the document says, so many days stand ahead of that date, and the chapter's examples hold: no condition.
-/
import Derived.Test.YtljcbnjidjcagaaRows
import Derived.WalkKit
import Derived.ProofKit
import Derived.OpenShut
import Derived.ShutString
import Derived.ChangeOld
import Derived.Test.YtljcbnjidjcagaaBacks
namespace Go.Proofs.Ytljcbnjidjcagaa.clockDate
open Go.ChangeShapes Go.WideShapes Go.ChangeAt Go.RowKit
open Go.ChangeMaps (open_string shut_string)
set_option linter.unusedVariables false
set_option linter.unusedSimpArgs false

theorem own : ownKnob Try.prog.godebug = none := by kernel_rfl

set_option maxHeartbeats 1000000 in
theorem walk (a0 : Int) (w0 : (Lit.int .i64 a0).wf = true) (w : World) :
    Calls Try.prog 4 #[.int .i64 a0] w fun e w' => e = .returned (.bool true) ∧ Below w.heap.size w w' := by
  by_cases h0 : a0 < 0
  · skip
    have HD := Lib.hid (fun W => date_no a0 W (by omega))
    have HR := Lib.hid (fun W => dateR_no (-1) W (by omega) (by omega) (by omega))
    go_enter Try.func4, Try.ntmps4
    go_wp2_with fail
    refine (HD.out _).mono ?_
    rintro e w' ⟨rfl, rfl⟩
    go_wp2_with fail
    refine (HR.out _).mono ?_
    rintro e w1 ⟨rfl, hb1⟩
    have B1 := Lib.hid hb1
    clear hb1
    go_wp2_with fail
    refine (awake_c _).mono ?_
    rintro e w9 ⟨rfl, hb9⟩
    have B9 := Lib.hid hb9
    clear hb9
    go_wp2
    go_ret
    exact ⟨rfl, B1.out.trans (B9.out.mono B1.out.size)⟩
  by_cases h1 : 4000000 < a0
  · have h0p : 0 ≤ a0 := by omega
    have HD := Lib.hid (fun W => date_no a0 W (by omega))
    have HR := Lib.hid (fun W => dateR_no (-1) W (by omega) (by omega) (by omega))
    go_enter Try.func4, Try.ntmps4
    go_wp2_with fail
    refine (HD.out _).mono ?_
    rintro e w' ⟨rfl, rfl⟩
    go_wp2_with fail
    refine (HR.out _).mono ?_
    rintro e w1 ⟨rfl, hb1⟩
    have B1 := Lib.hid hb1
    clear hb1
    go_wp2_with fail
    refine (awake_c _).mono ?_
    rintro e w9 ⟨rfl, hb9⟩
    have B9 := Lib.hid hb9
    clear hb9
    go_wp2
    go_ret
    exact ⟨rfl, B1.out.trans (B9.out.mono B1.out.size)⟩
  by_cases h2 : 2932897 ≤ a0
  · have h0p : 0 ≤ a0 := by omega
    have HD := Lib.hid (fun W => date_no a0 W (by omega))
    have HR := Lib.hid (fun W => dateR_no a0 W (by omega) (by omega) (by omega))
    go_enter Try.func4, Try.ntmps4
    go_wp2_with fail
    refine (HD.out _).mono ?_
    rintro e w' ⟨rfl, rfl⟩
    go_wp2_with fail
    refine (HR.out _).mono ?_
    rintro e w1 ⟨rfl, hb1⟩
    have B1 := Lib.hid hb1
    clear hb1
    go_wp2_with fail
    refine (awake_c _).mono ?_
    rintro e w9 ⟨rfl, hb9⟩
    have B9 := Lib.hid hb9
    clear hb9
    go_wp2
    go_ret
    exact ⟨rfl, B1.out.trans (B9.out.mono B1.out.size)⟩
  have h0p : 0 ≤ a0 := by omega
  have h1p : a0 < 2932897 := by omega
  clear h0 h1 h2
  have HD := Lib.hid (fun W => date_yes a0 W h0p h1p)
  have HR := Lib.hid (fun W => dateR_yes a0 W h0p h1p)
  go_enter Try.func4, Try.ntmps4
  go_wp2_with fail
  refine (HD.out _).mono ?_
  rintro e w' ⟨y, m, d, hv, hn, rfl, rfl⟩
  go_wp2_with fail
  refine (HR.out _).mono ?_
  rintro e w1 ⟨y', m', d', hv', hn', rfl, hb1⟩
  have B1 := Lib.hid hb1
  obtain ⟨rfl, rfl, rfl⟩ := day_inj hv hv' (by rw [hn, hn'])
  have HDD := Lib.hid (fun W => days_yes y m d W hv)
  rw [hn] at HDD
  have hy0 : 1970 ≤ y := (vld_of hv).1
  clear hb1 hv hv' hn hn' HD HR
  go_wp2_with fail
  refine (HDD.out _).mono ?_
  rintro e w' ⟨rfl, rfl⟩
  go_wp2_with fail
  refine (awake_c _).mono ?_
  rintro e w9 ⟨rfl, hb9⟩
  have B9 := Lib.hid hb9
  clear hb9
  go_wp2
  go_ret
  exact ⟨rfl, B1.out.trans (B9.out.mono B1.out.size)⟩

set_option maxRecDepth 100000 in
theorem lifted (os : Os) (started : os.Started) (H : Type) (enc : TypeId × Value → H) :
    ReturnsInHanded {} Try.checked os 4 .any (Rows.clockDateSpec.pre6 enc Try.prog Try.f4 Rows.clockDateRow.domain false) (Rows.clockDateSpec.post enc Try.prog Try.f4 false true false false) := by
  refine returnsInHanded_of_change (C := Try.checked) own started (by kernel_rfl) Try.func4
    (ChangeSpec.witness6 (enc := enc) (C := Try.checked) false ⟨#[], #[.int .i64 0], []⟩ 8 (by kernel_rfl) (by kernel_rfl) (by kernel_rfl) (by kernel_rfl)) ?_
  intro W base args ds gs before hval0 hW hcnd _
  have hval : ∀ (j : Nat) t v, Try.f4.params[j]? = some t → args[j]? = some v → Value.okWide Try.prog W .any base t v := hval0
  have hW' := hW
  obtain ⟨p, q, hA0, hV, rfl, hfz, hnd⟩ := hW
  have hA : DataW.TrodAll enc Try.prog W 0 (fun _ => true) true Try.f4.params.toList args.toList ds p := hA0
  rw [Try.params4] at hA hval
  obtain ⟨v0, vs0, d0, ds0, p0, q0, hargs, rfl, rfl, h0, r0⟩ := trodAll_cons hA
  obtain ⟨rfl, rfl, rfl⟩ := trodAll_nil r0
  obtain rfl : args = #[v0] := by cases args; simp_all
  obtain ⟨rfl, rfl⟩ := trodVars_none hV
  obtain ⟨a0, rfl, rfl, rfl, w0⟩ := open_int Try.underlying2 (hval 0 2 v0 rfl rfl) h0
  clear hA0 hval0
  refine (walk a0 w0 W).mono fun e W' ⟨he, bel⟩ => ?_
  subst he
  exact ⟨_, rfl, _, _, _, [], _, [], hW', trodAll_mk1 (shut_bool Try.underlying4 _), (trodAll_cons_mk (shut_int Try.underlying2 w0) trodAll_mk0), rfl, bel.frame _, fun h => by cases h⟩

theorem over : Rows.clockDateRow.holds Try.pinned (OpenSpec.ofChange Rows.clockDateSpec) :=
  OpenClaim.holds_of_wide 4 Try.f4 rfl rfl rfl rfl rfl rfl rfl ⟨rfl, rfl, rfl, rfl, rfl⟩ rfl rfl rfl rfl rfl (by kernel_rfl) Try.func4 (by kernel_rfl)
    (of_decide_eq_true (by kernel_rfl)) (by unfold Func.isWrapper; first | (rw [if_pos (by decide +kernel)]; kernel_rfl) | (rw [if_neg (by decide +kernel)]; exact ⟨rfl, rfl⟩))
    (fun os started H enc _ => lifted os started H enc)

end Go.Proofs.Ytljcbnjidjcagaa.clockDate
namespace Go.Proofs.Ytljcbnjidjcagaa
theorem clockDate_holds : Rows.ClockDateSaid := clockDate.over
#print axioms clockDate_holds
end Go.Proofs.Ytljcbnjidjcagaa
