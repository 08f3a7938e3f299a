/-
  For every text, Quote of package jtok is as the document's own answer (of the text's first hundred and twenty bytes), Unquote of it is the text, and the chapter's example holds. Condition: utf's two tables, three of the library's and errors.errorType lie as the program's text lays them (the card ties them to that text)
-/
import Derived.Test.YtmjfkibfakbdmaaDoorCards
import Derived.Test.YtmjfkibfakbdmaaDoorTie
import Derived.Test.YtmjfkibfakbdmaaDoorJtLaidQ
import Derived.ShutString
import Derived.ChangeOld
import Derived.SevenTiedAt
import Derived.Test.YtmjfkibfakbdmaaDoorJtAwake
import Derived.Test.YtmjfkibfakbdmaaDoorJtQuoR
namespace Go.Proofs.YtmjfkibfakbdmaaDoor.jtokQuote
open Go.ChangeShapes Go.WideShapes Go.ChangeAt Go.RowKit
open Go.ChangeMaps (open_string shut_string)
open Go.Proofs.YtmjfkibfakbdmaaDoor.Jt
set_option linter.unusedVariables false
set_option linter.unusedSimpArgs false

theorem own : ownKnob Tryd.prog.godebug = none := by kernel_rfl
theorem laidOut : laidOutB Tryd.prog = true := by kernel_rfl

set_option maxRecDepth 100000 in
set_option maxHeartbeats 8000000 in
theorem walk (a0 : ByteArray) (w0 : a0.size ≤ maxLen) (w : World) (hT : EnvQ w) :
    Calls Tryd.prog 5 #[.string a0] w fun e w' => e = .returned (.bool true) ∧ Below w.heap.size w w' := by
  have hsh := Lib.hid (fun W => short_c a0 W w0)
  have hsz := short_sz a0
  revert hsh hsz
  generalize mkS (shortL a0.data.toList) = s
  intro hsh hsz
  have HQ := Lib.hid (Quote_c s w hT.1.1 hT.2.1 (by omega) hT.2.2)
  have HE := Lib.hid hT.1
  have HW := Lib.hid (fun W => Ut.walk_r s W (by omega))
  have hl := Lib.hid (size_l s)
  have hwk : (Ut.walkL (Ut.nums s)).2 ≤ s.size ∧ vldB s.data.toList = decide ((Ut.walkL (Ut.nums s)).2 = s.size) := ⟨by
      have := walk_le (nl s.data.toList)
      rw [nums_nl]; rw [nl_len, ← hl.out] at this; exact this, by unfold vldB; rw [nums_nl, ← hl.out]⟩
  clear hT
  cases hv : vldB s.data.toList with
  | false =>
    rw [hv] at hwk
    have hlt : (Ut.walkL (Ut.nums s)).2 < s.size := by have := of_decide_eq_false hwk.2.symm; omega
    simp only [quoV, hv] at HQ
    simp only [Ut.tup2] at HW
    clear hv hwk
    revert HW hlt
    generalize Ut.walkL (Ut.nums s) = r
    intro HW hlt
    obtain ⟨n, q⟩ := r
    simp only at HW hlt
    have hlt' : (q : Int) < (s.size : Int) := by omega
    go_enter Tryd.func5, Tryd.ntmps5
    go_wp2_with (first | (go_at_call 7; refine (hsh.out _).mono ?_; rintro e w' ⟨rfl, rfl⟩) | (go_at_call 14; refine HQ.out.mono ?_; rintro e w1 ⟨rfl, hb1⟩; have HB1 := Lib.hid hb1; clear hb1) | (go_at_call 15; refine (HW.out _).mono ?_; rintro e w2 ⟨rfl, hb2⟩; have HB2 : Hid (Below w.heap.size w w2) := HB1.out.trans (hb2.mono HB1.out.size); have HE2 := Lib.hid (HE.out.go HB2.out); clear hb2) | (go_at_call 9; refine (awake_c _ HE2.out).mono ?_; rintro e w9 ⟨rfl, hb9⟩; have HB9 := Lib.hid hb9; clear hb9))
    go_ret
    exact ⟨rfl, HB2.out.trans (HB9.out.mono HB2.out.size)⟩
  | true =>
    rw [hv] at hwk
    have heq : (Ut.walkL (Ut.nums s)).2 = s.size := of_decide_eq_true hwk.2.symm
    simp only [quoV, hv] at HQ
    simp only [Ut.tup2] at HW
    have HU := Lib.hid (fun (W : World) (hW : Env W) => Unquote_c (mkS (quoL s.data.toList)) W hW (by
      rw [size_mkS]; unfold quoL; rw [List.length_cons, List.length_append]; have := quL_len s.data.toList; rw [← hl.out] at this; simp; omega))
    rw [data_mkS, unq_quo hv] at HU
    simp only [unqV] at HU
    have hms : mkS s.data.toList = s := (mkS_of rfl).symm
    rw [hms] at HU
    have HR := Lib.hid (fun W => quoteR_c s W (by omega))
    clear hv hwk hms
    revert HW heq
    generalize Ut.walkL (Ut.nums s) = r
    intro HW heq
    obtain ⟨n, q⟩ := r
    simp only at HW heq
    subst heq
    revert HQ HU HR
    generalize mkS (quoL s.data.toList) = Q
    intro HQ HU HR
    go_enter Tryd.func5, Tryd.ntmps5
    go_wp2_with (first | (go_at_call 7; refine (hsh.out _).mono ?_; rintro e w' ⟨rfl, rfl⟩) | (go_at_call 14; refine HQ.out.mono ?_; rintro e w1 ⟨rfl, hb1⟩; have HB1 := Lib.hid hb1; clear hb1) | (go_at_call 15; refine (HW.out _).mono ?_; rintro e w2 ⟨rfl, hb2⟩; have HB2 : Hid (Below w.heap.size w w2) := HB1.out.trans (hb2.mono HB1.out.size); have HE2 := Lib.hid (HE.out.go HB2.out); clear hb2) | (go_at_call 16; refine (HU.out _ HE2.out).mono ?_; rintro e w3 ⟨rfl, hb3⟩; have HB3 : Hid (Below w.heap.size w w3) := HB2.out.trans (hb3.mono HB2.out.size); have HE3 := Lib.hid (HE2.out.go hb3); clear hb3) | (go_at_call 17; refine (HR.out _).mono ?_; rintro e w' ⟨rfl, rfl⟩) | (go_at_call 9; refine (awake_c _ HE3.out).mono ?_; rintro e w9 ⟨rfl, hb9⟩; have HB9 := Lib.hid hb9; clear hb9))
    go_ret
    exact ⟨rfl, HB3.out.trans (HB9.out.mono HB3.out.size)⟩

set_option maxRecDepth 100000 in
theorem lifted (os : Os) (started : os.Started) (H : Type) (enc : TypeId × Value → H) :
    ReturnsInHanded {} Tryd.checked os 5 .any (fun w args => (Rows.jtokQuoteSpec.pre enc Tryd.prog Tryd.f5 [] false w args ∧ laidMetH Tryd.prog [("larum/utf.firsts", Rows.laid_larum_utf_firsts), ("larum/utf.leads", Rows.laid_larum_utf_leads), ("math/bits.deBruijn32tab", Rows.laid_math_bits_deBruijn32tab), ("math/bits.deBruijn64tab", Rows.laid_math_bits_deBruijn64tab), ("internal/strconv.uint64pow10", Rows.laid_internal_strconv_uint64pow10), ("errors.errorType", Rows.laid_errors_errorType)] w) ∧ sizedMet enc Tryd.prog Tryd.f5 (OpenSpec.ofChange Rows.jtokQuoteSpec) false w args)
      (Rows.jtokQuoteSpec.post enc Tryd.prog Tryd.f5 false true false false) := by
  refine returnsInHanded_of_change_and (C := Tryd.checked) (X := fun w _ => laidMetH Tryd.prog [("larum/utf.firsts", Rows.laid_larum_utf_firsts), ("larum/utf.leads", Rows.laid_larum_utf_leads), ("math/bits.deBruijn32tab", Rows.laid_math_bits_deBruijn32tab), ("math/bits.deBruijn64tab", Rows.laid_math_bits_deBruijn64tab), ("internal/strconv.uint64pow10", Rows.laid_internal_strconv_uint64pow10), ("errors.errorType", Rows.laid_errors_errorType)] w) (fun _ _ _ hh h => h.of_heap hh) own started (by kernel_rfl) Tryd.func5
    (ChangeSpec.witness_shaped (enc := enc) (C := Tryd.checked) (os := os) (X := fun w _ => laidMetH Tryd.prog [("larum/utf.firsts", Rows.laid_larum_utf_firsts), ("larum/utf.leads", Rows.laid_larum_utf_leads), ("math/bits.deBruijn32tab", Rows.laid_math_bits_deBruijn32tab), ("math/bits.deBruijn64tab", Rows.laid_math_bits_deBruijn64tab), ("internal/strconv.uint64pow10", Rows.laid_internal_strconv_uint64pow10), ("errors.errorType", Rows.laid_errors_errorType)] w) false (World.doorLaid Tryd.prog 400 os) #[.string ByteArray.empty] 8 rfl (World.shaped_of_RefB (by kernel_rfl) (by kernel_rfl)) (by kernel_rfl) (by kernel_rfl) (by kernel_rfl) (door_metQ os _)) ?_
  intro W base args ds gs before hval0 hW _ _ hL _
  have hval : ∀ (j : Nat) t v, Tryd.f5.params[j]? = some t → args[j]? = some v → Value.okWide Tryd.prog W .any base t v := hval0
  have hW' := hW
  obtain ⟨p, q, hA0, hV, rfl, hfz, hnd⟩ := hW
  have hA : DataW.TrodAll enc Tryd.prog W 0 (fun _ => true) true Tryd.f5.params.toList args.toList ds p := hA0
  rw [Tryd.params5] at hA hval
  obtain ⟨v0, vs0, d0, ds0, p0, q0, hargs, rfl, rfl, h0, r0⟩ := trodAll_cons hA
  obtain ⟨rfl, rfl, rfl⟩ := trodAll_nil r0
  obtain rfl : args = #[v0] := by cases args; simp_all
  obtain ⟨rfl, rfl⟩ := trodVars_none hV
  obtain ⟨a0, rfl, rfl, rfl, w0⟩ := open_string Tryd.underlying9 (hval 0 9 v0 rfl rfl) h0
  clear hA0 hval0
  have hT := of_laidQ hL
  refine (walk a0 w0 W hT).mono fun e W' ⟨he, bel⟩ => ?_
  subst he
  exact ⟨_, rfl, _, _, _, [], _, [], hW', trodAll_mk1 (shut_bool Tryd.underlying4 _), (trodAll_cons_mk (shut_string Tryd.underlying9 w0) trodAll_mk0), rfl, bel.frame _, fun h => by cases h⟩

theorem over : Rows.JtokQuoteSaid :=
  OpenClaim.holds_of_wide 5 Tryd.f5 rfl rfl rfl rfl rfl rfl rfl ⟨rfl, rfl, rfl, rfl, rfl⟩ rfl rfl rfl rfl rfl (by kernel_rfl) Tryd.func5 (by kernel_rfl)
    (of_decide_eq_true (by kernel_rfl)) (by unfold Func.isWrapper; first | (rw [if_pos (by decide +kernel)]; kernel_rfl) | (rw [if_neg (by decide +kernel)]; exact ⟨rfl, rfl⟩))
    (fun os started H enc _ => lifted os started H enc)
end Go.Proofs.YtmjfkibfakbdmaaDoor.jtokQuote
namespace Go.Proofs.YtmjfkibfakbdmaaDoor
theorem jtokQuote_card : Rows.JtokQuoteCardSaid :=
  Claim7.holds_tied_plain_at .later [] [.data, .data, .data, .data, .data, .handle] true (true, "2cbfe54769d386897f7fea380aeb517429f468c18f1297726d800113395f31c9") true
    jtokQuote.over (fun _ h => by cases h) (by kernel_rfl) (fun _ h => by cases h) jtokQuote_row_tie rfl ⟨rfl, rfl⟩ (by kernel_rfl) rfl
    (fun f fn hf hfn => by
      obtain rfl : f = 5 := Option.some.inj ((show Tryd.prog.funcNamed Tryd.f5.name = some 5 by kernel_rfl).symm.trans hf) |>.symm
      obtain rfl : fn = Tryd.f5 := (Option.some.inj (Tryd.func5.symm.trans hfn)).symm
      exact ⟨by kernel_rfl, fun j t ht => by
        rw [Tryd.params5] at ht
        have hm : t ∈ [9] := by simpa using Array.mem_of_getElem? ht
        have hall : ([9].all fun u => !Tryd.prog.wantsStandIn u) = true := by kernel_rfl
        exact (show Tryd.prog.wantsStandIn t = false by simpa using List.all_eq_true.1 hall t hm)⟩)
    (by kernel_rfl)
#print axioms jtokQuote_card
end Go.Proofs.YtmjfkibfakbdmaaDoor
