/-
  For every text, All of package chars at Token, at Digit and at nil is as the document says (of the text's first eighty bytes), and the chapter's example holds: no condition.
-/
import Derived.Test.YthepijohllemdaaRows
import Derived.WalkKit
import Derived.ProofKit
import Derived.OpenShut
import Derived.ShutString
import Derived.ChangeOld
import Derived.Test.YthepijohllemdaaAwake
import Derived.Test.YthepijohllemdaaAlls
namespace Go.Proofs.Ythepijohllemdaa.charsAll
open Go.ChangeShapes Go.WideShapes Go.ChangeAt Go.RowKit
open Go.ChangeMaps (open_string shut_string)
set_option linter.unusedVariables false
set_option linter.unusedSimpArgs false

theorem own : ownKnob Try.prog.godebug = none := by kernel_rfl

theorem short_sz (a : ByteArray) : (mkS (shortL a.data.toList)).size ≤ 80 := by rw [size_mkS]; unfold shortL; rw [List.length_take]; omega
theorem tok_snoc {s : ByteArray} {k : Nat} (hk : k < s.size) : tokBL (s.data.toList.take (k + 1)) = (tokBL (s.data.toList.take k) && tokB (s[k].toNat : Int)) := by rw [take_snoc hk]; unfold tokBL; rw [List.all_append]; simp
theorem dig_snoc {s : ByteArray} {k : Nat} (hk : k < s.size) : digBL (s.data.toList.take (k + 1)) = (digBL (s.data.toList.take k) && digB (s[k].toNat : Int)) := by rw [take_snoc hk]; unfold digBL; rw [List.all_append]; simp
theorem val_bool {a b : Bool} (h : a = b) : Value.bool a = .bool b := by rw [h]

set_option maxHeartbeats 2000000 in
theorem walk (a0 : ByteArray) (w0 : a0.size ≤ maxLen) (w : World) :
    Calls Try.prog 4 #[.string a0] w fun e w' => e = .returned (.bool true) ∧ Below w.heap.size w w' := by
  have hsa := Lib.hid (fun W => short_c a0 W w0)
  have hla := short_sz a0
  revert hsa hla
  generalize mkS (shortL a0.data.toList) = s
  intro hsa hla
  have hsl := Lib.hid (Lib.size_eq s)
  have HT := Lib.hid (fun W => all_tok s W (by omega))
  have HD := Lib.hid (fun W => all_dig s W (by omega))
  have HN := Lib.hid (fun W => all_nil s W)
  go_enter Try.func4, Try.ntmps4
  go_wp2_with fail
  refine (hsa.out _).mono ?_
  rintro e w' ⟨rfl, rfl⟩
  go_wp2
  go_loopw [3, 4, 5] (fun t d i wr => ∃ k : Nat, k ≤ s.size ∧ i = .int .i64 k ∧ t = .bool (tokBL (s.data.toList.take k)) ∧ d = .bool (digBL (s.data.toList.take k)) ∧ Below w.heap.size w wr) (fun _ _ i _ => s.size - (intOf i).toNat)
  case atStart => exact ⟨0, by omega, rfl, rfl, rfl, Below.refl _ _⟩
  case round =>
    obtain ⟨k, hk, rfl, rfl, rfl, hB⟩ := hrel
    have HB := Lib.hid hB
    clear hB
    by_cases hlt : k < s.size
    · have h0 : 0 ≤ ((s[k].toNat : Nat) : Int) := by omega
      have h1 : ((s[k].toNat : Nat) : Int) ≤ 255 := by have := s[k].toNat_lt; omega
      have HTS := Lib.hid (tok_snoc hlt)
      have HDS := Lib.hid (dig_snoc hlt)
      revert HTS HDS
      generalize tokBL (s.data.toList.take k) = p
      generalize digBL (s.data.toList.take k) = q
      intro HTS HDS
      cases p <;> cases q
      all_goals
        go_wp2_with (first | (go_at_call 8; refine (tok_r _ _ h0 h1).mono ?_; rintro e w2 ⟨rfl, hb2⟩; have HB2 := Lib.hid hb2; clear hb2) | (go_at_call 10; refine (dig_r _ _ h0 h1).mono ?_; rintro e w' ⟨rfl, rfl⟩))
        go_roundw
        case rel => exact ⟨k + 1, by omega, by go_num, val_bool (by rw [HTS.out]; simp), val_bool (by rw [HDS.out]; simp), by first | exact HB.out.trans (HB2.out.mono HB.out.size) | exact HB.out⟩
        case measure => simp [intOf]; omega
    · have HK : Hid (s.data.toList.take k = s.data.toList) := by
        show s.data.toList.take k = s.data.toList
        rw [List.take_of_length_le (by rw [← hsl.out]; omega)]
      rw [HK.out]
      generalize tokBL s.data.toList = p at HT ⊢
      generalize digBL s.data.toList = q at HD ⊢
      go_wp2_with fail
      refine (HT.out _).mono ?_
      rintro e w' ⟨rfl, rfl⟩
      go_wp2_with fail
      refine (HD.out _).mono ?_
      rintro e w' ⟨rfl, rfl⟩
      go_wp2_with fail
      refine (HN.out _).mono ?_
      rintro e w' ⟨rfl, rfl⟩
      go_wp2_with fail
      refine (awake_c _).mono ?_
      rintro e w2 ⟨rfl, hb2⟩
      have HB2 := Lib.hid hb2
      clear hb2
      go_wp2
      go_ret
      exact ⟨rfl, HB.out.trans (HB2.out.mono HB.out.size)⟩

set_option maxRecDepth 100000 in
theorem lifted (os : Os) (started : os.Started) (H : Type) (enc : TypeId × Value → H) :
    ReturnsInHanded {} Try.checked os 4 .any (Rows.charsAllSpec.pre6 enc Try.prog Try.f4 Rows.charsAllRow.domain false) (Rows.charsAllSpec.post enc Try.prog Try.f4 false true false false) := by
  refine returnsInHanded_of_change (C := Try.checked) own started (by kernel_rfl) Try.func4
    (ChangeSpec.witness6 (enc := enc) (C := Try.checked) false ⟨#[], #[.string ByteArray.empty], []⟩ 8 (by kernel_rfl) (by kernel_rfl) (by kernel_rfl) (by kernel_rfl)) ?_
  intro W base args ds gs before hval0 hW hcnd _
  have hval : ∀ (j : Nat) t v, Try.f4.params[j]? = some t → args[j]? = some v → Value.okWide Try.prog W .any base t v := hval0
  have hW' := hW
  obtain ⟨p, q, hA0, hV, rfl, hfz, hnd⟩ := hW
  have hA : DataW.TrodAll enc Try.prog W 0 (fun _ => true) true Try.f4.params.toList args.toList ds p := hA0
  rw [Try.params4] at hA hval
  obtain ⟨v0, vs0, d0, ds0, p0, q0, hargs, rfl, rfl, h0, r0⟩ := trodAll_cons hA
  obtain ⟨rfl, rfl, rfl⟩ := trodAll_nil r0
  obtain rfl : args = #[v0] := by cases args; simp_all
  obtain ⟨rfl, rfl⟩ := trodVars_none hV
  obtain ⟨a0, rfl, rfl, rfl, w0⟩ := open_string Try.underlying9 (hval 0 9 v0 rfl rfl) h0
  clear hA0 hval0
  refine (walk a0 w0 W).mono fun e W' ⟨he, bel⟩ => ?_
  subst he
  exact ⟨_, rfl, _, _, _, [], _, [], hW', trodAll_mk1 (shut_bool Try.underlying4 _), (trodAll_cons_mk (shut_string Try.underlying9 w0) trodAll_mk0), rfl, bel.frame _, fun h => by cases h⟩

theorem over : Rows.charsAllRow.holds Try.pinned (OpenSpec.ofChange Rows.charsAllSpec) :=
  OpenClaim.holds_of_wide 4 Try.f4 rfl rfl rfl rfl rfl rfl rfl ⟨rfl, rfl, rfl, rfl, rfl⟩ rfl rfl rfl rfl rfl (by kernel_rfl) Try.func4 (by kernel_rfl)
    (of_decide_eq_true (by kernel_rfl)) (by unfold Func.isWrapper; first | (rw [if_pos (by decide +kernel)]; kernel_rfl) | (rw [if_neg (by decide +kernel)]; exact ⟨rfl, rfl⟩))
    (fun os started H enc _ => lifted os started H enc)

end Go.Proofs.Ythepijohllemdaa.charsAll
namespace Go.Proofs.Ythepijohllemdaa
theorem charsAll_holds : Rows.CharsAllSaid := charsAll.over
#print axioms charsAll_holds
end Go.Proofs.Ythepijohllemdaa
