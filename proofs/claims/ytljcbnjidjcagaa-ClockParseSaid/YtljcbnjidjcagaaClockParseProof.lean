/-
  For every text, Parse of package clock is as the document says (of the text's first forty bytes), what is read is printed as that text, and the chapter's examples hold: no condition.
-/
import Derived.Test.YtljcbnjidjcagaaRows
import Derived.WalkKit
import Derived.ProofKit
import Derived.OpenShut
import Derived.ShutString
import Derived.ChangeOld
import Derived.Test.YtljcbnjidjcagaaBacks
namespace Go.Proofs.Ytljcbnjidjcagaa.clockParse
open Go.ChangeShapes Go.WideShapes Go.ChangeAt Go.RowKit
open Go.ChangeMaps (open_string shut_string)
set_option linter.unusedVariables false
set_option linter.unusedSimpArgs false

theorem own : ownKnob Try.prog.godebug = none := by kernel_rfl

theorem pr_back (t : ByteArray) (h : parE t.data.toList = 0) (w : World) : Calls Try.prog 13 #[.int .i64 (parT t.data.toList)] w fun e w' => e = .returned (.tuple #[.string t, .int .i64 0]) ∧ Below w.heap.size w w' := by
  obtain ⟨h0, h1, hT⟩ := par_TX h
  refine (print_yes _ w h0 h1).mono fun e w' h => ?_
  obtain ⟨l, hl, rfl, hb⟩ := h
  obtain rfl := hl.one hT
  exact ⟨by rw [← mkS_of rfl], hb⟩
set_option maxHeartbeats 1000000 in
theorem walk (a0 : ByteArray) (w0 : a0.size ≤ maxLen) (w : World) :
    Calls Try.prog 6 #[.string a0] w fun e w' => e = .returned (.bool true) ∧ Below w.heap.size w w' := by
  unfold maxLen at w0
  by_cases h : 40 < a0.size
  · have h' : (40 : Int) < (a0.size : Int) := by omega
    have hsz : (a0.extract 0 40).size ≤ 1000 := by rw [ByteArray.size_extract]; omega
    have HP := Lib.hid (fun W => parse_c (a0.extract 0 40) W hsz)
    have HR := Lib.hid (fun W => parse_r (a0.extract 0 40) W)
    clear hsz
    cases hE : decide (parE (a0.extract 0 40).data.toList = 0) with
    | true =>
      have hz := of_decide_eq_true hE
      have HB := Lib.hid (fun W => pr_back (a0.extract 0 40) hz W)
      rw [hz] at HP HR
      clear hz hE
      revert HP HR HB
      generalize parT (a0.extract 0 40).data.toList = T
      intro HP HR HB
      go_enter Try.func6, Try.ntmps6
      go_wp2_with fail
      refine (HP.out _).mono ?_
      rintro e w1 ⟨rfl, hb1⟩
      have B1 := Lib.hid hb1
      clear hb1
      go_wp2_with fail
      refine (HR.out _).mono ?_
      rintro e w2 ⟨rfl, hb2⟩
      have B2 := Lib.hid hb2
      clear hb2
      go_wp2_with fail
      refine (HB.out _).mono ?_
      rintro e w3 ⟨rfl, hb3⟩
      have B3 := Lib.hid hb3
      clear hb3
      go_wp2_with fail
      refine (awake_c _).mono ?_
      rintro e w9 ⟨rfl, hb9⟩
      have B9 := Lib.hid hb9
      clear hb9
      go_wp2
      go_ret
      have C2 := B1.out.trans (B2.out.mono B1.out.size)
      have C3 := C2.trans (B3.out.mono C2.size)
      exact ⟨rfl, C3.trans (B9.out.mono C3.size)⟩
    | false =>
      have hz := of_decide_eq_false hE
      have hz2 : (parE (a0.extract 0 40).data.toList != 0) = true := by rw [bne_iff_ne]; exact hz
      clear hz hE
      revert HP HR hz2
      generalize parT (a0.extract 0 40).data.toList = T
      generalize parE (a0.extract 0 40).data.toList = E
      intro HP HR hz2
      go_enter Try.func6, Try.ntmps6
      go_wp2_with fail
      refine (HP.out _).mono ?_
      rintro e w1 ⟨rfl, hb1⟩
      have B1 := Lib.hid hb1
      clear hb1
      go_wp2_with fail
      refine (HR.out _).mono ?_
      rintro e w2 ⟨rfl, hb2⟩
      have B2 := Lib.hid hb2
      clear hb2
      go_wp2_with fail
      refine (awake_c _).mono ?_
      rintro e w9 ⟨rfl, hb9⟩
      have B9 := Lib.hid hb9
      clear hb9
      go_wp2
      go_ret
      have C2 := B1.out.trans (B2.out.mono B1.out.size)
      exact ⟨rfl, C2.trans (B9.out.mono C2.size)⟩
  · have h' : (a0.size : Int) ≤ 40 := by omega
    have hsz : a0.size ≤ 1000 := by omega
    have HP := Lib.hid (fun W => parse_c a0 W hsz)
    have HR := Lib.hid (fun W => parse_r a0 W)
    clear hsz
    cases hE : decide (parE a0.data.toList = 0) with
    | true =>
      have hz := of_decide_eq_true hE
      have HB := Lib.hid (fun W => pr_back a0 hz W)
      rw [hz] at HP HR
      clear hz hE
      revert HP HR HB
      generalize parT a0.data.toList = T
      intro HP HR HB
      go_enter Try.func6, Try.ntmps6
      go_wp2_with fail
      refine (HP.out _).mono ?_
      rintro e w1 ⟨rfl, hb1⟩
      have B1 := Lib.hid hb1
      clear hb1
      go_wp2_with fail
      refine (HR.out _).mono ?_
      rintro e w2 ⟨rfl, hb2⟩
      have B2 := Lib.hid hb2
      clear hb2
      go_wp2_with fail
      refine (HB.out _).mono ?_
      rintro e w3 ⟨rfl, hb3⟩
      have B3 := Lib.hid hb3
      clear hb3
      go_wp2_with fail
      refine (awake_c _).mono ?_
      rintro e w9 ⟨rfl, hb9⟩
      have B9 := Lib.hid hb9
      clear hb9
      go_wp2
      go_ret
      have C2 := B1.out.trans (B2.out.mono B1.out.size)
      have C3 := C2.trans (B3.out.mono C2.size)
      exact ⟨rfl, C3.trans (B9.out.mono C3.size)⟩
    | false =>
      have hz := of_decide_eq_false hE
      have hz2 : (parE a0.data.toList != 0) = true := by rw [bne_iff_ne]; exact hz
      clear hz hE
      revert HP HR hz2
      generalize parT a0.data.toList = T
      generalize parE a0.data.toList = E
      intro HP HR hz2
      go_enter Try.func6, Try.ntmps6
      go_wp2_with fail
      refine (HP.out _).mono ?_
      rintro e w1 ⟨rfl, hb1⟩
      have B1 := Lib.hid hb1
      clear hb1
      go_wp2_with fail
      refine (HR.out _).mono ?_
      rintro e w2 ⟨rfl, hb2⟩
      have B2 := Lib.hid hb2
      clear hb2
      go_wp2_with fail
      refine (awake_c _).mono ?_
      rintro e w9 ⟨rfl, hb9⟩
      have B9 := Lib.hid hb9
      clear hb9
      go_wp2
      go_ret
      have C2 := B1.out.trans (B2.out.mono B1.out.size)
      exact ⟨rfl, C2.trans (B9.out.mono C2.size)⟩

set_option maxRecDepth 100000 in
theorem lifted (os : Os) (started : os.Started) (H : Type) (enc : TypeId × Value → H) :
    ReturnsInHanded {} Try.checked os 6 .any (Rows.clockParseSpec.pre6 enc Try.prog Try.f6 Rows.clockParseRow.domain false) (Rows.clockParseSpec.post enc Try.prog Try.f6 false true false false) := by
  refine returnsInHanded_of_change (C := Try.checked) own started (by kernel_rfl) Try.func6
    (ChangeSpec.witness6 (enc := enc) (C := Try.checked) false ⟨#[], #[.string ByteArray.empty], []⟩ 8 (by kernel_rfl) (by kernel_rfl) (by kernel_rfl) (by kernel_rfl)) ?_
  intro W base args ds gs before hval0 hW hcnd _
  have hval : ∀ (j : Nat) t v, Try.f6.params[j]? = some t → args[j]? = some v → Value.okWide Try.prog W .any base t v := hval0
  have hW' := hW
  obtain ⟨p, q, hA0, hV, rfl, hfz, hnd⟩ := hW
  have hA : DataW.TrodAll enc Try.prog W 0 (fun _ => true) true Try.f6.params.toList args.toList ds p := hA0
  rw [Try.params6] at hA hval
  obtain ⟨v0, vs0, d0, ds0, p0, q0, hargs, rfl, rfl, h0, r0⟩ := trodAll_cons hA
  obtain ⟨rfl, rfl, rfl⟩ := trodAll_nil r0
  obtain rfl : args = #[v0] := by cases args; simp_all
  obtain ⟨rfl, rfl⟩ := trodVars_none hV
  obtain ⟨a0, rfl, rfl, rfl, w0⟩ := open_string Try.underlying9 (hval 0 9 v0 rfl rfl) h0
  clear hA0 hval0
  refine (walk a0 w0 W).mono fun e W' ⟨he, bel⟩ => ?_
  subst he
  exact ⟨_, rfl, _, _, _, [], _, [], hW', trodAll_mk1 (shut_bool Try.underlying4 _), (trodAll_cons_mk (shut_string Try.underlying9 w0) trodAll_mk0), rfl, bel.frame _, fun h => by cases h⟩

theorem over : Rows.clockParseRow.holds Try.pinned (OpenSpec.ofChange Rows.clockParseSpec) :=
  OpenClaim.holds_of_wide 6 Try.f6 rfl rfl rfl rfl rfl rfl rfl ⟨rfl, rfl, rfl, rfl, rfl⟩ rfl rfl rfl rfl rfl (by kernel_rfl) Try.func6 (by kernel_rfl)
    (of_decide_eq_true (by kernel_rfl)) (by unfold Func.isWrapper; first | (rw [if_pos (by decide +kernel)]; kernel_rfl) | (rw [if_neg (by decide +kernel)]; exact ⟨rfl, rfl⟩))
    (fun os started H enc _ => lifted os started H enc)

end Go.Proofs.Ytljcbnjidjcagaa.clockParse
namespace Go.Proofs.Ytljcbnjidjcagaa
theorem clockParse_holds : Rows.ClockParseSaid := clockParse.over
#print axioms clockParse_holds
end Go.Proofs.Ytljcbnjidjcagaa
