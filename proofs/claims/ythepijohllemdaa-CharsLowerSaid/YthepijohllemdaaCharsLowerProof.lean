/-
  For any two texts, Lower and Same of package chars are as the document's own answers (of the texts' first eighty bytes), and the chapter's example holds: no condition.
-/
import Derived.Test.YthepijohllemdaaRows
import Derived.WalkKit
import Derived.ProofKit
import Derived.OpenShut
import Derived.ShutString
import Derived.ChangeOld
import Derived.Test.YthepijohllemdaaAwake
import Derived.Test.YthepijohllemdaaLowers
namespace Go.Proofs.Ythepijohllemdaa.charsLower
open Go.ChangeShapes Go.WideShapes Go.ChangeAt Go.RowKit
open Go.ChangeMaps (open_string shut_string)
set_option linter.unusedVariables false
set_option linter.unusedSimpArgs false

theorem own : ownKnob Try.prog.godebug = none := by kernel_rfl

theorem low_low_all : ∀ n : Fin 256, lowB (lowB (UInt8.ofNat n.val)) = lowB (UInt8.ofNat n.val) := by decide +kernel
theorem low_low (b : UInt8) : lowB (lowB b) = lowB b := by
  have h := low_low_all ⟨b.toNat, b.toNat_lt⟩
  simpa using h
theorem lowL_low (l : List UInt8) : lowL (lowL l) = lowL l := by unfold lowL; rw [List.map_map]; exact List.map_congr_left (fun b _ => low_low b)
theorem short_sz (a : ByteArray) : (mkS (shortL a.data.toList)).size ≤ 80 := by rw [size_mkS]; unfold shortL; rw [List.length_take]; omega

set_option maxHeartbeats 2000000 in
theorem walk (a0 : ByteArray) (a1 : ByteArray) (w0 : a0.size ≤ maxLen) (w1 : a1.size ≤ maxLen) (w : World) :
    Calls Try.prog 5 #[.string a0, .string a1] w fun e w' => e = .returned (.bool true) ∧ Below w.heap.size w w' := by
  have hsa := Lib.hid (fun W => short_c a0 W w0)
  have hsb := Lib.hid (fun W => short_c a1 W w1)
  have hla := short_sz a0
  have hlb := short_sz a1
  revert hsa hsb hla hlb
  generalize mkS (shortL a0.data.toList) = a
  generalize mkS (shortL a1.data.toList) = b
  intro hsa hsb hla hlb
  have HA := Lib.hid (fun W => low_c a W (by omega))
  have HRA := Lib.hid (fun W => low_r a W (by omega))
  have HRB := Lib.hid (fun W => low_r b W (by omega))
  have HS := Lib.hid (fun W => same_c a b W (by omega) (by omega))
  have hz : Hid ((mkS (lowL a.data.toList)).size ≤ 1000) := by
    show (mkS (lowL a.data.toList)).size ≤ 1000
    rw [size_mkS]; unfold lowL; rw [List.length_map, ← Lib.size_eq]; omega
  have HS2 := Lib.hid (fun W => same_c a (mkS (lowL a.data.toList)) W (by omega) hz.out)
  have hq := str_eq (lowL a.data.toList) (lowL b.data.toList)
  have e1 : decide (lowL a.data.toList = lowL (mkS (lowL a.data.toList)).data.toList) = true := by rw [data_mkS, lowL_low]; simp
  rw [e1] at HS2
  clear e1 hz
  revert HA HRA HRB HS HS2 hq
  generalize decide (lowL a.data.toList = lowL b.data.toList) = q
  generalize mkS (lowL a.data.toList) = la
  generalize mkS (lowL b.data.toList) = lb
  intro HA HRA HRB HS HS2 hq
  go_enter Try.func5, Try.ntmps5
  go_wp2_with fail
  refine (hsa.out _).mono ?_
  rintro e w' ⟨rfl, rfl⟩
  go_wp2_with fail
  refine (hsb.out _).mono ?_
  rintro e w' ⟨rfl, rfl⟩
  go_wp2_with fail
  refine (HA.out _).mono ?_
  rintro e w1 ⟨rfl, hb1⟩
  have B1 := Lib.hid hb1
  clear hb1
  go_wp2_with fail
  refine (HRA.out _).mono ?_
  rintro e w2 ⟨rfl, hb2⟩
  have B2 := Lib.hid hb2
  clear hb2
  go_wp2_with fail
  refine (HS.out _).mono ?_
  rintro e w3 ⟨rfl, hb3⟩
  have B3 := Lib.hid hb3
  clear hb3
  go_wp2_with fail
  refine (HRA.out _).mono ?_
  rintro e w4 ⟨rfl, hb4⟩
  have B4 := Lib.hid hb4
  clear hb4
  go_wp2_with fail
  refine (HRB.out _).mono ?_
  rintro e w5 ⟨rfl, hb5⟩
  have B5 := Lib.hid hb5
  clear hb5
  go_wp2_with fail
  refine (HRA.out _).mono ?_
  rintro e w6 ⟨rfl, hb6⟩
  have B6 := Lib.hid hb6
  clear hb6
  go_wp2_with fail
  refine (HS2.out _).mono ?_
  rintro e w7 ⟨rfl, hb7⟩
  have B7 := Lib.hid hb7
  clear hb7
  go_wp2_with fail
  refine (awake_c _).mono ?_
  rintro e w8 ⟨rfl, hb8⟩
  have B8 := Lib.hid hb8
  clear hb8
  go_wp2
  go_ret
  have C2 := B1.out.trans (B2.out.mono B1.out.size)
  have C3 := C2.trans (B3.out.mono C2.size)
  have C4 := C3.trans (B4.out.mono C3.size)
  have C5 := C4.trans (B5.out.mono C4.size)
  have C6 := C5.trans (B6.out.mono C5.size)
  have C7 := C6.trans (B7.out.mono C6.size)
  exact ⟨rfl, C7.trans (B8.out.mono C7.size)⟩

set_option maxRecDepth 100000 in
theorem lifted (os : Os) (started : os.Started) (H : Type) (enc : TypeId × Value → H) :
    ReturnsInHanded {} Try.checked os 5 .any (Rows.charsLowerSpec.pre6 enc Try.prog Try.f5 Rows.charsLowerRow.domain false) (Rows.charsLowerSpec.post enc Try.prog Try.f5 false true false false) := by
  refine returnsInHanded_of_change (C := Try.checked) own started (by kernel_rfl) Try.func5
    (ChangeSpec.witness6 (enc := enc) (C := Try.checked) false ⟨#[], #[.string ByteArray.empty, .string ByteArray.empty], []⟩ 8 (by kernel_rfl) (by kernel_rfl) (by kernel_rfl) (by kernel_rfl)) ?_
  intro W base args ds gs before hval0 hW hcnd _
  have hval : ∀ (j : Nat) t v, Try.f5.params[j]? = some t → args[j]? = some v → Value.okWide Try.prog W .any base t v := hval0
  have hW' := hW
  obtain ⟨p, q, hA0, hV, rfl, hfz, hnd⟩ := hW
  have hA : DataW.TrodAll enc Try.prog W 0 (fun _ => true) true Try.f5.params.toList args.toList ds p := hA0
  rw [Try.params5] at hA hval
  obtain ⟨v0, vs0, d0, ds0, p0, q0, hargs, rfl, rfl, h0, r0⟩ := trodAll_cons hA
  obtain ⟨v1, vs1, d1, ds1, p1, q1, rfl, rfl, rfl, h1, r1⟩ := trodAll_cons r0
  obtain ⟨rfl, rfl, rfl⟩ := trodAll_nil r1
  obtain rfl : args = #[v0, v1] := by cases args; simp_all
  obtain ⟨rfl, rfl⟩ := trodVars_none hV
  obtain ⟨a0, rfl, rfl, rfl, w0⟩ := open_string Try.underlying9 (hval 0 9 v0 rfl rfl) h0
  obtain ⟨a1, rfl, rfl, rfl, w1⟩ := open_string Try.underlying9 (hval 1 9 v1 rfl rfl) h1
  clear hA0 hval0
  refine (walk a0 a1 w0 w1 W).mono fun e W' ⟨he, bel⟩ => ?_
  subst he
  exact ⟨_, rfl, _, _, _, [], _, [], hW', trodAll_mk1 (shut_bool Try.underlying4 _), (trodAll_cons_mk (shut_string Try.underlying9 w0) (trodAll_cons_mk (shut_string Try.underlying9 w1) trodAll_mk0)), rfl, bel.frame _, fun h => by cases h⟩

theorem over : Rows.charsLowerRow.holds Try.pinned (OpenSpec.ofChange Rows.charsLowerSpec) :=
  OpenClaim.holds_of_wide 5 Try.f5 rfl rfl rfl rfl rfl rfl rfl ⟨rfl, rfl, rfl, rfl, rfl⟩ rfl rfl rfl rfl rfl (by kernel_rfl) Try.func5 (by kernel_rfl)
    (of_decide_eq_true (by kernel_rfl)) (by unfold Func.isWrapper; first | (rw [if_pos (by decide +kernel)]; kernel_rfl) | (rw [if_neg (by decide +kernel)]; exact ⟨rfl, rfl⟩))
    (fun os started H enc _ => lifted os started H enc)

end Go.Proofs.Ythepijohllemdaa.charsLower
namespace Go.Proofs.Ythepijohllemdaa
theorem charsLower_holds : Rows.CharsLowerSaid := charsLower.over
#print axioms charsLower_holds
end Go.Proofs.Ythepijohllemdaa
