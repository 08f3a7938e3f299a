/-
  For every text and every byte, Trim and Fields of package chars are as the document's own answers (of the text's first eighty bytes), and the chapter's example holds: no condition.
-/
import Derived.Test.YthepijohllemdaaRows
import Derived.WalkKit
import Derived.ProofKit
import Derived.OpenShut
import Derived.ShutString
import Derived.ChangeOld
import Derived.Deep.QuietTactic
import Derived.BigQuiet
import Derived.WalkSmall
import Derived.Test.YthepijohllemdaaAwake
import Derived.Test.YthepijohllemdaaCuts
namespace Go.Proofs.Ythepijohllemdaa.charsFields
open Go.ChangeShapes Go.WideShapes Go.ChangeAt Go.RowKit
open Go.ChangeMaps (open_string shut_string)
set_option linter.unusedVariables false
set_option linter.unusedSimpArgs false

theorem own : ownKnob Try.prog.godebug = none := by kernel_rfl

theorem own_any {w : World} {B n : Nat} {v : Value} {xs : List Value} (h : w.ownsRow B 9 1 v n xs) : ∃ A cap, v = .slice A n cap := by
  rcases h.2 with ⟨rfl, rfl⟩ | ⟨g, cap, cur, rfl, _⟩
  · exact ⟨none, 0, rfl⟩
  · exact ⟨_, _, rfl⟩

set_option maxHeartbeats 2000000 in
theorem walk (a0 : ByteArray) (a1 : Int) (w0 : a0.size ≤ maxLen) (w1 : (Lit.int .u8 a1).wf = true) (w : World) :
    Calls Try.prog 6 #[.string a0, .int .u8 a1] w fun e w' => e = .returned (.bool true) ∧ Below w.heap.size w w' := by
  obtain ⟨h0, h1⟩ := bounds_u8 w1
  have hsh := Lib.hid (short_c a0 w w0)
  have hlen : (mkS (shortL a0.data.toList)).size ≤ 80 := by rw [size_mkS]; unfold shortL; rw [List.length_take]; omega
  revert hsh hlen
  generalize mkS (shortL a0.data.toList) = s
  intro hsh hlen
  have HF := Lib.hid (fun W => fields_c s a1 W (by omega))
  have HG := Lib.hid (fun W => fields_r s a1 W (by omega) h0 h1)
  have HT := Lib.hid (fun W => trim_c s W (by unfold maxLen; omega))
  have HU := Lib.hid (fun W => trim_r s W (by unfold maxLen; omega))
  have hfl : Hid ((fieldsL a1.toNat.toUInt8 s.data.toList).length ≤ 1001) := by
    show (fieldsL a1.toNat.toUInt8 s.data.toList).length ≤ 1001
    have e1 := keepsL_len (cutL a1.toNat.toUInt8 s.data.toList)
    have e2 := cutL_len a1.toNat.toUInt8 s.data.toList
    rw [← Lib.size_eq] at e2
    unfold fieldsL
    omega
  revert HF HG HT HU hfl
  generalize fieldsL a1.toNat.toUInt8 s.data.toList = fs
  generalize mkS (trimL s.data.toList) = tr
  intro HF HG HT HU hfl
  go_enter Try.func6, Try.ntmps6
  go_wp2_with fail
  refine hsh.out.mono ?_
  rintro e w' ⟨rfl, rfl⟩
  clear hsh
  go_wp2_with fail
  refine (HF.out _).mono ?_
  rintro e wa ⟨va, rfl, hOa, hba⟩
  go_wp2_with fail
  refine (HG.out _).mono ?_
  rintro e wb ⟨vb, rfl, hOb, hbb⟩
  clear HF HG
  have HBB : Hid (Below w.heap.size w wb) := hba.trans (hbb.mono hba.size)
  by_cases hn : 0 < fs.length
  · obtain ⟨ga, capa, rfl⟩ := Joins.ownsRow_form hOa hn
    obtain ⟨gb, capb, rfl⟩ := Joins.ownsRow_form hOb hn
    have HA : Hid (ga < wb.heap.size ∧ ∀ k (hk : k < fs.length), wb.cell? ⟨ga, k, none⟩ = some (.string (mkS fs[k]))) :=
      ⟨Nat.lt_of_lt_of_le (hOa.lt ga rfl).2 hbb.size, fun k hk => (hbb.cell (p := ⟨ga, k, none⟩) (hOa.lt ga rfl).2).trans (cell_of_owned hOa k hk)⟩
    have HB : Hid (gb < wb.heap.size ∧ ∀ k (hk : k < fs.length), wb.cell? ⟨gb, k, none⟩ = some (.string (mkS fs[k]))) :=
      ⟨(hOb.lt gb rfl).2, fun k hk => cell_of_owned hOb k hk⟩
    clear hOa hOb hba hbb
    have hfl2 : fs.length ≤ 1001 := hfl.out
    go_wp2_with (first | (go_at_call 25; refine (HT.out _).mono ?_; rintro e w' ⟨rfl, rfl⟩) | (go_at_call 26; refine (HU.out _).mono ?_; rintro e w' ⟨rfl, rfl⟩))
    go_loopw [30] (fun i wr => ∃ k : Nat, k ≤ fs.length ∧ i = .int .i64 k ∧ Below wb.heap.size wb wr) (fun i _ => fs.length - (intOf i).toNat)
    case atStart => exact ⟨0, by omega, rfl, Below.refl _ _⟩
    case round =>
      obtain ⟨k, hk, rfl, hW⟩ := hrel
      by_cases hlt : k < fs.length
      · have ca : wr.cell? ⟨ga, k, none⟩ = some (.string (mkS fs[k])) := (hW.cell (p := ⟨ga, k, none⟩) HA.out.1).trans (HA.out.2 k hlt)
        have cb : wr.cell? ⟨gb, k, none⟩ = some (.string (mkS fs[k])) := (hW.cell (p := ⟨gb, k, none⟩) HB.out.1).trans (HB.out.2 k hlt)
        revert ca cb
        generalize fs[k] = x
        intro ca cb
        have hlt' : (k : Int) < (fs.length : Int) := by omega
        have hk0 : (0 : Int) ≤ (k : Int) := by omega
        go_wp2
        go_quiet (fail)
        go_wp2
        go_roundw
        case rel => exact ⟨k + 1, by omega, by go_num, hW.trans (below_drewN (Below.refl _ _) _)⟩
        case measure => simp [intOf]; omega
      · go_wp2_with (go_at_call 17; refine (awake_c _).mono ?_; rintro e w2 ⟨rfl, hb2⟩; have HB2 := Lib.hid hb2; clear hb2)
        go_ret
        exact ⟨rfl, HBB.out.trans ((hW.mono HBB.out.size).trans (HB2.out.mono (Nat.le_trans HBB.out.size hW.size)))⟩
  · obtain rfl : fs = [] := List.length_eq_zero_iff.1 (by omega)
    obtain ⟨A, capa, rfl⟩ := own_any hOa
    obtain ⟨A2, capb, rfl⟩ := own_any hOb
    clear hOa hOb hba hbb hfl hn
    go_wp2_with (first | (go_at_call 25; refine (HT.out _).mono ?_; rintro e w' ⟨rfl, rfl⟩) | (go_at_call 26; refine (HU.out _).mono ?_; rintro e w' ⟨rfl, rfl⟩))
    refine wp_loop_rounds 1 ?_
    rw [rounds_succ]
    go_wp2_with (go_at_call 17; refine (awake_c _).mono ?_; rintro e w2 ⟨rfl, hb2⟩; have HB2 := Lib.hid hb2; clear hb2)
    go_ret
    exact ⟨rfl, HBB.out.trans (HB2.out.mono HBB.out.size)⟩

set_option maxRecDepth 100000 in
theorem lifted (os : Os) (started : os.Started) (H : Type) (enc : TypeId × Value → H) :
    ReturnsInHanded {} Try.checked os 6 .any (Rows.charsFieldsSpec.pre6 enc Try.prog Try.f6 Rows.charsFieldsRow.domain false) (Rows.charsFieldsSpec.post enc Try.prog Try.f6 false true false false) := by
  refine returnsInHanded_of_change (C := Try.checked) own started (by kernel_rfl) Try.func6
    (ChangeSpec.witness6 (enc := enc) (C := Try.checked) false ⟨#[], #[.string ByteArray.empty, .int .u8 0], []⟩ 8 (by kernel_rfl) (by kernel_rfl) (by kernel_rfl) (by kernel_rfl)) ?_
  intro W base args ds gs before hval0 hW hcnd _
  have hval : ∀ (j : Nat) t v, Try.f6.params[j]? = some t → args[j]? = some v → Value.okWide Try.prog W .any base t v := hval0
  have hW' := hW
  obtain ⟨p, q, hA0, hV, rfl, hfz, hnd⟩ := hW
  have hA : DataW.TrodAll enc Try.prog W 0 (fun _ => true) true Try.f6.params.toList args.toList ds p := hA0
  rw [Try.params6] at hA hval
  obtain ⟨v0, vs0, d0, ds0, p0, q0, hargs, rfl, rfl, h0, r0⟩ := trodAll_cons hA
  obtain ⟨v1, vs1, d1, ds1, p1, q1, rfl, rfl, rfl, h1, r1⟩ := trodAll_cons r0
  obtain ⟨rfl, rfl, rfl⟩ := trodAll_nil r1
  obtain rfl : args = #[v0, v1] := by cases args; simp_all
  obtain ⟨rfl, rfl⟩ := trodVars_none hV
  obtain ⟨a0, rfl, rfl, rfl, w0⟩ := open_string Try.underlying9 (hval 0 9 v0 rfl rfl) h0
  obtain ⟨a1, rfl, rfl, rfl, w1⟩ := open_int Try.underlying5 (hval 1 5 v1 rfl rfl) h1
  clear hA0 hval0
  refine (walk a0 a1 w0 w1 W).mono fun e W' ⟨he, bel⟩ => ?_
  subst he
  exact ⟨_, rfl, _, _, _, [], _, [], hW', trodAll_mk1 (shut_bool Try.underlying4 _), (trodAll_cons_mk (shut_string Try.underlying9 w0) (trodAll_cons_mk (shut_int Try.underlying5 w1) trodAll_mk0)), rfl, bel.frame _, fun h => by cases h⟩

theorem over : Rows.charsFieldsRow.holds Try.pinned (OpenSpec.ofChange Rows.charsFieldsSpec) :=
  OpenClaim.holds_of_wide 6 Try.f6 rfl rfl rfl rfl rfl rfl rfl ⟨rfl, rfl, rfl, rfl, rfl⟩ rfl rfl rfl rfl rfl (by kernel_rfl) Try.func6 (by kernel_rfl)
    (of_decide_eq_true (by kernel_rfl)) (by unfold Func.isWrapper; first | (rw [if_pos (by decide +kernel)]; kernel_rfl) | (rw [if_neg (by decide +kernel)]; exact ⟨rfl, rfl⟩))
    (fun os started H enc _ => lifted os started H enc)

end Go.Proofs.Ythepijohllemdaa.charsFields
namespace Go.Proofs.Ythepijohllemdaa
theorem charsFields_holds : Rows.CharsFieldsSaid := charsFields.over
#print axioms charsFields_holds
end Go.Proofs.Ythepijohllemdaa
