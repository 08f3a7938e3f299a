/-
  For every number, PutHex of package num is as the document's own answer and is read as that number, up to 2^31 - 1, and the chapter's examples hold. Condition: the three tables of the library lie as the program's text lays them (the card ties them to that text).
-/
import Derived.Test.YtmnddffbgepaaaaDoorCards
import Derived.Test.YtmnddffbgepaaaaDoorTie
import Derived.Test.YtmnddffbgepaaaaDoorLaid
import Derived.ShutString
import Derived.ChangeOld
import Derived.SevenTiedAt
namespace Go.Proofs.YtmnddffbgepaaaaDoor.numHex
open Go.ChangeShapes Go.WideShapes Go.ChangeAt Go.RowKit
open Go.ChangeMaps (open_string shut_string)
set_option linter.unusedVariables false
set_option linter.unusedSimpArgs false

theorem own : ownKnob Tryd.prog.godebug = none := by kernel_rfl
theorem laidOut : laidOutB Tryd.prog = true := by kernel_rfl

theorem hex_nil : rdN 16 2147483647 [] = 0 ∧ rdE 16 2147483647 [] = 3 := by decide +kernel
set_option maxHeartbeats 1000000 in
theorem walk (a0 : Int) (w0 : (Lit.int .i64 a0).wf = true) (w : World) (hT : Tabs w) :
    Calls Tryd.prog 6 #[.int .i64 a0] w fun e w' => e = .returned (.bool true) ∧ Below w.heap.size w w' := by
  obtain ⟨h0, h1⟩ := bounds_i64 w0
  have HT := Lib.hid hT
  clear hT
  by_cases hn : a0 < 0
  · have HF := Lib.hid (fun W => puthex_neg a0 W hn)
    have HX := Lib.hid (fun W => hex_c ⟨#[]⟩ W (by decide))
    rw [show (ByteArray.mk #[]).data.toList = [] from rfl, hex_nil.1, hex_nil.2] at HX
    have HR := Lib.hid (fun W => puthexR_neg a0 W hn)
    have HA := Lib.hid (awake_c w HT.out)
    go_enter Tryd.func6, Tryd.ntmps6
    go_wp2_with fail
    refine (HF.out _).mono ?_
    rintro e w' ⟨rfl, rfl⟩
    go_wp2_with fail
    refine (HX.out _).mono ?_
    rintro e w' ⟨rfl, rfl⟩
    go_wp2_with fail
    refine (HR.out _).mono ?_
    rintro e w' ⟨rfl, rfl⟩
    go_wp2_with fail
    refine (HA.out).mono ?_
    rintro e w9 ⟨rfl, hb9⟩
    have B9 := Lib.hid hb9
    clear hb9
    go_wp2
    go_ret
    exact ⟨rfl, B9.out⟩
  obtain ⟨u, rfl⟩ : ∃ u : Nat, a0 = u := ⟨a0.toNat, by omega⟩
  have hu : u ≤ 9223372036854775807 := by omega
  have h0u : 0 ≤ (u : Int) := by omega
  have HF := Lib.hid (puthex_pos u w hu HT.out)
  have HR := Lib.hid (fun W => puthexR_pos (u + 1) u W (by omega) hu)
  obtain ⟨v1, v2⟩ := hex_val (u + 1) u (by omega)
  have v3 : hexL u ≠ [] := fun e => by have := hex_pos u; rw [e] at this; simp at this
  have hlen : (mkS (hexL u)).size ≤ 1000 := by
    rw [size_mkS]
    have := hex_len 15 u (by have : (16 : Nat) ^ (15 + 1) = 18446744073709551616 := by decide
                             omega)
    omega
  have HX := Lib.hid (fun W => hex_c (mkS (hexL u)) W hlen)
  rw [data_mkS] at HX
  by_cases hM : (u : Int) ≤ 2147483647
  · have hr := rd_yes (M := 2147483647) ⟨v3, v2⟩ (by rw [v1]; exact hM)
    rw [hr.1, hr.2, v1] at HX
    clear hr v1 v2 v3 hlen hn
    revert HF HX HR
    generalize mkS (hexL u) = s
    intro HF HR HX
    go_enter Tryd.func6, Tryd.ntmps6
    go_wp2_with fail
    refine (HF.out).mono ?_
    rintro e w1 ⟨rfl, hb1⟩
    have B1 := Lib.hid hb1
    clear hb1
    have HT1 : Hid (Tabs w1) := HT.out.go B1.out
    go_wp2_with fail
    refine (HX.out _).mono ?_
    rintro e w' ⟨rfl, rfl⟩
    go_wp2_with fail
    refine (HR.out _).mono ?_
    rintro e w' ⟨rfl, rfl⟩
    go_wp2_with fail
    refine (awake_c _ HT1.out).mono ?_
    rintro e w9 ⟨rfl, hb9⟩
    have B9 := Lib.hid hb9
    clear hb9
    go_wp2
    go_ret
    have C0 := B1.out.trans (B9.out.mono B1.out.size)
    exact ⟨rfl, C0⟩
  · have hr := rd_long (M := 2147483647) ⟨v3, v2⟩ (by rw [v1]; exact hM)
    rw [hr.1, hr.2] at HX
    have hM2 : 2147483647 < (u : Int) := by omega
    clear hr v1 v2 v3 hlen hn hM
    revert HF HX HR
    generalize mkS (hexL u) = s
    intro HF HR HX
    go_enter Tryd.func6, Tryd.ntmps6
    go_wp2_with fail
    refine (HF.out).mono ?_
    rintro e w1 ⟨rfl, hb1⟩
    have B1 := Lib.hid hb1
    clear hb1
    have HT1 : Hid (Tabs w1) := HT.out.go B1.out
    go_wp2_with fail
    refine (HX.out _).mono ?_
    rintro e w' ⟨rfl, rfl⟩
    go_wp2_with fail
    refine (HR.out _).mono ?_
    rintro e w' ⟨rfl, rfl⟩
    go_wp2_with fail
    refine (awake_c _ HT1.out).mono ?_
    rintro e w9 ⟨rfl, hb9⟩
    have B9 := Lib.hid hb9
    clear hb9
    go_wp2
    go_ret
    have C0 := B1.out.trans (B9.out.mono B1.out.size)
    exact ⟨rfl, C0⟩

set_option maxRecDepth 100000 in
theorem lifted (os : Os) (started : os.Started) (H : Type) (enc : TypeId × Value → H) :
    ReturnsInHanded {} Tryd.checked os 6 .any (fun w args => (Rows.numHexSpec.pre enc Tryd.prog Tryd.f6 [] false w args ∧ laidMetH Tryd.prog [("math/bits.deBruijn32tab", Rows.laid_math_bits_deBruijn32tab), ("math/bits.deBruijn64tab", Rows.laid_math_bits_deBruijn64tab), ("internal/strconv.uint64pow10", Rows.laid_internal_strconv_uint64pow10)] w) ∧ sizedMet enc Tryd.prog Tryd.f6 (OpenSpec.ofChange Rows.numHexSpec) false w args)
      (Rows.numHexSpec.post enc Tryd.prog Tryd.f6 false true false false) := by
  refine returnsInHanded_of_change_and (C := Tryd.checked) (X := fun w _ => laidMetH Tryd.prog [("math/bits.deBruijn32tab", Rows.laid_math_bits_deBruijn32tab), ("math/bits.deBruijn64tab", Rows.laid_math_bits_deBruijn64tab), ("internal/strconv.uint64pow10", Rows.laid_internal_strconv_uint64pow10)] w) (fun _ _ _ hh h => h.of_heap hh) own started (by kernel_rfl) Tryd.func6
    (ChangeSpec.witness_shaped (enc := enc) (C := Tryd.checked) (os := os) (X := fun w _ => laidMetH Tryd.prog [("math/bits.deBruijn32tab", Rows.laid_math_bits_deBruijn32tab), ("math/bits.deBruijn64tab", Rows.laid_math_bits_deBruijn64tab), ("internal/strconv.uint64pow10", Rows.laid_internal_strconv_uint64pow10)] w) false (World.doorLaid Tryd.prog 400 os) #[.int .i64 0] 8 rfl (World.shaped_of_RefB (by kernel_rfl) (by kernel_rfl)) (by kernel_rfl) (by kernel_rfl) (by kernel_rfl) (door_met os _)) ?_
  intro W base args ds gs before hval0 hW _ _ hL _
  have hval : ∀ (j : Nat) t v, Tryd.f6.params[j]? = some t → args[j]? = some v → Value.okWide Tryd.prog W .any base t v := hval0
  have hW' := hW
  obtain ⟨p, q, hA0, hV, rfl, hfz, hnd⟩ := hW
  have hA : DataW.TrodAll enc Tryd.prog W 0 (fun _ => true) true Tryd.f6.params.toList args.toList ds p := hA0
  rw [Tryd.params6] at hA hval
  obtain ⟨v0, vs0, d0, ds0, p0, q0, hargs, rfl, rfl, h0, r0⟩ := trodAll_cons hA
  obtain ⟨rfl, rfl, rfl⟩ := trodAll_nil r0
  obtain rfl : args = #[v0] := by cases args; simp_all
  obtain ⟨rfl, rfl⟩ := trodVars_none hV
  obtain ⟨a0, rfl, rfl, rfl, w0⟩ := open_int Tryd.underlying3 (hval 0 3 v0 rfl rfl) h0
  clear hA0 hval0
  have hT := of_laid hL
  refine (walk a0 w0 W hT).mono fun e W' ⟨he, bel⟩ => ?_
  subst he
  exact ⟨_, rfl, _, _, _, [], _, [], hW', trodAll_mk1 (shut_bool Tryd.underlying4 _), (trodAll_cons_mk (shut_int Tryd.underlying3 w0) trodAll_mk0), rfl, bel.frame _, fun h => by cases h⟩

theorem over : Rows.NumHexSaid :=
  OpenClaim.holds_of_wide 6 Tryd.f6 rfl rfl rfl rfl rfl rfl rfl ⟨rfl, rfl, rfl, rfl, rfl⟩ rfl rfl rfl rfl rfl (by kernel_rfl) Tryd.func6 (by kernel_rfl)
    (of_decide_eq_true (by kernel_rfl)) (by unfold Func.isWrapper; first | (rw [if_pos (by decide +kernel)]; kernel_rfl) | (rw [if_neg (by decide +kernel)]; exact ⟨rfl, rfl⟩))
    (fun os started H enc _ => lifted os started H enc)
end Go.Proofs.YtmnddffbgepaaaaDoor.numHex
namespace Go.Proofs.YtmnddffbgepaaaaDoor
theorem numHex_card : Rows.NumHexCardSaid :=
  Claim7.holds_tied_plain_at .later [] [.data, .data, .data] true (true, "82340990d227bf5fe20f7dc4af694840f587261a5042f1b2ac394b3bce881acc") false
    numHex.over (fun _ h => by cases h) (by kernel_rfl) (fun _ h => by cases h) numHex_row_tie rfl ⟨rfl, rfl⟩ (by kernel_rfl) rfl
    (fun f fn hf hfn => by
      obtain rfl : f = 6 := Option.some.inj ((show Tryd.prog.funcNamed Tryd.f6.name = some 6 by kernel_rfl).symm.trans hf) |>.symm
      obtain rfl : fn = Tryd.f6 := (Option.some.inj (Tryd.func6.symm.trans hfn)).symm
      exact ⟨by kernel_rfl, fun j t ht => by
        rw [Tryd.params6] at ht
        have hm : t ∈ [3] := by simpa using Array.mem_of_getElem? ht
        have hall : ([3].all fun u => !Tryd.prog.wantsStandIn u) = true := by kernel_rfl
        exact (show Tryd.prog.wantsStandIn t = false by simpa using List.all_eq_true.1 hall t hm)⟩)
    (by kernel_rfl)
#print axioms numHex_card
end Go.Proofs.YtmnddffbgepaaaaDoor
