/-
  For every text, Unquote of package jtok is as the document's own answer (of the text's first hundred and twenty bytes), and the chapter's example holds. Condition: utf's two tables and errors.errorType lie as the program's text lays them (the card ties them to that text)
-/
import Derived.Test.YtmjfkibfakbdmaaDoorCards
import Derived.Test.YtmjfkibfakbdmaaDoorTie
import Derived.Test.YtmjfkibfakbdmaaDoorJtLaid
import Derived.ShutString
import Derived.ChangeOld
import Derived.SevenTiedAt
import Derived.Test.YtmjfkibfakbdmaaDoorJtAwake
import Derived.Test.YtmjfkibfakbdmaaDoorJtUnq
import Derived.Test.YtmjfkibfakbdmaaDoorJtRef4
namespace Go.Proofs.YtmjfkibfakbdmaaDoor.jtokUnquote
open Go.ChangeShapes Go.WideShapes Go.ChangeAt Go.RowKit
open Go.ChangeMaps (open_string shut_string)
open Go.Proofs.YtmjfkibfakbdmaaDoor.Jt
set_option linter.unusedVariables false
set_option linter.unusedSimpArgs false

theorem own : ownKnob Tryd.prog.godebug = none := by kernel_rfl
theorem laidOut : laidOutB Tryd.prog = true := by kernel_rfl

set_option maxRecDepth 100000 in
set_option maxHeartbeats 8000000 in
theorem walk (a0 : ByteArray) (w0 : a0.size ≤ maxLen) (w : World) (hT : Env w) :
    Calls Tryd.prog 6 #[.string a0] w fun e w' => e = .returned (.bool true) ∧ Below w.heap.size w w' := by
  have hsh := Lib.hid (fun W => short_c a0 W w0)
  have hsz := short_sz a0
  revert hsh hsz
  generalize mkS (shortL a0.data.toList) = s
  intro hsh hsz
  have HN := Lib.hid (Unquote_c s w hT (by omega))
  have HE := Lib.hid hT
  have hl := Lib.hid (size_l s)
  clear hT
  by_cases hc : 0 < s.data.toList.length ∧ at0 s.data.toList 0 = 34
  · have hpos : 0 < s.size := by rw [hl.out]; exact hc.1
    have hem : s.toList.isEmpty = false := Nu.empty_no (by omega)
    have q : ((s[0].toNat : Int) != 34) = false := by rw [bne, byte_q s 0 hpos, hc.2]; rfl
    have hU : unqL s.data.toList = match textA s.data.toList 1 with | none => none | some r => if r.2 = s.data.toList.length then some r.1 else none := by unfold unqL; rw [if_pos hc]; rfl
    have HX0 := Lib.hid (fun W => textr_c s 1 W (by omega) (by omega))
    clear hc
    cases hx : textA s.data.toList 1 with
    | none =>
      rw [hx] at hU
      have HX := Lib.hid (fun W => (HX0.out W).mono fun e w' g => (show e = .returned (.tuple #[.string ⟨#[]⟩, .int .i64 (-1)]) ∧ Below W.heap.size W w' by unfold TrP at g; rw [hx] at g; exact g))
      simp only at hU
      rw [hU] at HN
      simp only [unqV] at HN
      have q2 : ((-1 : Int) != (s.size : Int)) = true := by first | (simp; done) | (simp; omega)
      clear hU HX0 hx
      go_enter Tryd.func6, Tryd.ntmps6
      go_wp2_with (first | (go_at_call 7; refine (hsh.out _).mono ?_; rintro e w' ⟨rfl, rfl⟩) | (go_at_call 16; refine HN.out.mono ?_; rintro e w1 ⟨rfl, hb1⟩; have HB1 := Lib.hid hb1; have HE1 := Lib.hid (HE.out.go hb1); clear hb1) | (go_at_call 18; refine (HX.out _).mono ?_; rintro e w2 ⟨rfl, hb2⟩; have HB2 : Hid (Below w.heap.size w w2) := HB1.out.trans (hb2.mono HB1.out.size); have HE2 := Lib.hid (HE1.out.go hb2); clear hb2) | (go_at_call 9; refine (awake_c _ HE2.out).mono ?_; rintro e w9 ⟨rfl, hb9⟩; have HB9 := Lib.hid hb9; clear hb9))
      go_ret
      exact ⟨rfl, HB2.out.trans (HB9.out.mono HB2.out.size)⟩
    | some r =>
      rw [hx] at hU
      have HX := Lib.hid (fun W => (HX0.out W).mono fun e w' g => (show e = .returned (.tuple #[.string (mkS r.1), .int .i64 (r.2 : Nat)]) ∧ Below W.heap.size W w' by unfold TrP at g; rw [hx] at g; exact g))
      obtain ⟨rt, rk⟩ := r
      simp only at hU HX
      by_cases hr : rk = s.data.toList.length
      · rw [if_pos hr] at hU
        rw [hU] at HN
        simp only [unqV] at HN
        have q2 : ((rk : Int) != (s.size : Int)) = false := by rw [← hl.out] at hr; simp; omega
        clear hU HX0 hx hr
        go_enter Tryd.func6, Tryd.ntmps6
        go_wp2_with (first | (go_at_call 7; refine (hsh.out _).mono ?_; rintro e w' ⟨rfl, rfl⟩) | (go_at_call 16; refine HN.out.mono ?_; rintro e w1 ⟨rfl, hb1⟩; have HB1 := Lib.hid hb1; have HE1 := Lib.hid (HE.out.go hb1); clear hb1) | (go_at_call 18; refine (HX.out _).mono ?_; rintro e w2 ⟨rfl, hb2⟩; have HB2 : Hid (Below w.heap.size w w2) := HB1.out.trans (hb2.mono HB1.out.size); have HE2 := Lib.hid (HE1.out.go hb2); clear hb2) | (go_at_call 9; refine (awake_c _ HE2.out).mono ?_; rintro e w9 ⟨rfl, hb9⟩; have HB9 := Lib.hid hb9; clear hb9))
        go_ret
        exact ⟨rfl, HB2.out.trans (HB9.out.mono HB2.out.size)⟩
      · rw [if_neg hr] at hU
        rw [hU] at HN
        simp only [unqV] at HN
        have q2 : ((rk : Int) != (s.size : Int)) = true := by rw [← hl.out] at hr; simp; omega
        clear hU HX0 hx hr
        go_enter Tryd.func6, Tryd.ntmps6
        go_wp2_with (first | (go_at_call 7; refine (hsh.out _).mono ?_; rintro e w' ⟨rfl, rfl⟩) | (go_at_call 16; refine HN.out.mono ?_; rintro e w1 ⟨rfl, hb1⟩; have HB1 := Lib.hid hb1; have HE1 := Lib.hid (HE.out.go hb1); clear hb1) | (go_at_call 18; refine (HX.out _).mono ?_; rintro e w2 ⟨rfl, hb2⟩; have HB2 : Hid (Below w.heap.size w w2) := HB1.out.trans (hb2.mono HB1.out.size); have HE2 := Lib.hid (HE1.out.go hb2); clear hb2) | (go_at_call 9; refine (awake_c _ HE2.out).mono ?_; rintro e w9 ⟨rfl, hb9⟩; have HB9 := Lib.hid hb9; clear hb9))
        go_ret
        exact ⟨rfl, HB2.out.trans (HB9.out.mono HB2.out.size)⟩
  · have hU : unqL s.data.toList = none := by unfold unqL; rw [if_neg hc]
    rw [hU] at HN
    simp only [unqV] at HN
    by_cases h0 : s.size = 0
    · have hem : s.toList.isEmpty = true := Nu.empty_of h0
      clear hc hU h0
      go_enter Tryd.func6, Tryd.ntmps6
      go_wp2_with (first | (go_at_call 7; refine (hsh.out _).mono ?_; rintro e w' ⟨rfl, rfl⟩) | (go_at_call 16; refine HN.out.mono ?_; rintro e w1 ⟨rfl, hb1⟩; have HB1 := Lib.hid hb1; have HE1 := Lib.hid (HE.out.go hb1); clear hb1) | (go_at_call 9; refine (awake_c _ HE1.out).mono ?_; rintro e w9 ⟨rfl, hb9⟩; have HB9 := Lib.hid hb9; clear hb9))
      go_ret
      exact ⟨rfl, HB1.out.trans (HB9.out.mono HB1.out.size)⟩
    · have hem : s.toList.isEmpty = false := Nu.empty_no h0
      have hpos : 0 < s.size := by omega
      have q : ((s[0].toNat : Int) != 34) = true := by
        rw [bne, byte_q s 0 hpos, decide_eq_false (fun g => hc ⟨by rw [← hl.out]; exact hpos, g⟩)]; rfl
      clear hc hU h0
      go_enter Tryd.func6, Tryd.ntmps6
      go_wp2_with (first | (go_at_call 7; refine (hsh.out _).mono ?_; rintro e w' ⟨rfl, rfl⟩) | (go_at_call 16; refine HN.out.mono ?_; rintro e w1 ⟨rfl, hb1⟩; have HB1 := Lib.hid hb1; have HE1 := Lib.hid (HE.out.go hb1); clear hb1) | (go_at_call 9; refine (awake_c _ HE1.out).mono ?_; rintro e w9 ⟨rfl, hb9⟩; have HB9 := Lib.hid hb9; clear hb9))
      go_ret
      exact ⟨rfl, HB1.out.trans (HB9.out.mono HB1.out.size)⟩

set_option maxRecDepth 100000 in
theorem lifted (os : Os) (started : os.Started) (H : Type) (enc : TypeId × Value → H) :
    ReturnsInHanded {} Tryd.checked os 6 .any (fun w args => (Rows.jtokUnquoteSpec.pre enc Tryd.prog Tryd.f6 [] false w args ∧ laidMetH Tryd.prog [("larum/utf.firsts", Rows.laid_larum_utf_firsts), ("larum/utf.leads", Rows.laid_larum_utf_leads), ("errors.errorType", Rows.laid_errors_errorType)] w) ∧ sizedMet enc Tryd.prog Tryd.f6 (OpenSpec.ofChange Rows.jtokUnquoteSpec) false w args)
      (Rows.jtokUnquoteSpec.post enc Tryd.prog Tryd.f6 false true false false) := by
  refine returnsInHanded_of_change_and (C := Tryd.checked) (X := fun w _ => laidMetH Tryd.prog [("larum/utf.firsts", Rows.laid_larum_utf_firsts), ("larum/utf.leads", Rows.laid_larum_utf_leads), ("errors.errorType", Rows.laid_errors_errorType)] w) (fun _ _ _ hh h => h.of_heap hh) own started (by kernel_rfl) Tryd.func6
    (ChangeSpec.witness_shaped (enc := enc) (C := Tryd.checked) (os := os) (X := fun w _ => laidMetH Tryd.prog [("larum/utf.firsts", Rows.laid_larum_utf_firsts), ("larum/utf.leads", Rows.laid_larum_utf_leads), ("errors.errorType", Rows.laid_errors_errorType)] w) false (World.doorLaid Tryd.prog 400 os) #[.string ByteArray.empty] 8 rfl (World.shaped_of_RefB (by kernel_rfl) (by kernel_rfl)) (by kernel_rfl) (by kernel_rfl) (by kernel_rfl) (door_met os _)) ?_
  intro W base args ds gs before hval0 hW _ _ hL _
  have hval : ∀ (j : Nat) t v, Tryd.f6.params[j]? = some t → args[j]? = some v → Value.okWide Tryd.prog W .any base t v := hval0
  have hW' := hW
  obtain ⟨p, q, hA0, hV, rfl, hfz, hnd⟩ := hW
  have hA : DataW.TrodAll enc Tryd.prog W 0 (fun _ => true) true Tryd.f6.params.toList args.toList ds p := hA0
  rw [Tryd.params6] at hA hval
  obtain ⟨v0, vs0, d0, ds0, p0, q0, hargs, rfl, rfl, h0, r0⟩ := trodAll_cons hA
  obtain ⟨rfl, rfl, rfl⟩ := trodAll_nil r0
  obtain rfl : args = #[v0] := by cases args; simp_all
  obtain ⟨rfl, rfl⟩ := trodVars_none hV
  obtain ⟨a0, rfl, rfl, rfl, w0⟩ := open_string Tryd.underlying9 (hval 0 9 v0 rfl rfl) h0
  clear hA0 hval0
  have hT := of_laid hL
  refine (walk a0 w0 W hT).mono fun e W' ⟨he, bel⟩ => ?_
  subst he
  exact ⟨_, rfl, _, _, _, [], _, [], hW', trodAll_mk1 (shut_bool Tryd.underlying4 _), (trodAll_cons_mk (shut_string Tryd.underlying9 w0) trodAll_mk0), rfl, bel.frame _, fun h => by cases h⟩

theorem over : Rows.JtokUnquoteSaid :=
  OpenClaim.holds_of_wide 6 Tryd.f6 rfl rfl rfl rfl rfl rfl rfl ⟨rfl, rfl, rfl, rfl, rfl⟩ rfl rfl rfl rfl rfl (by kernel_rfl) Tryd.func6 (by kernel_rfl)
    (of_decide_eq_true (by kernel_rfl)) (by unfold Func.isWrapper; first | (rw [if_pos (by decide +kernel)]; kernel_rfl) | (rw [if_neg (by decide +kernel)]; exact ⟨rfl, rfl⟩))
    (fun os started H enc _ => lifted os started H enc)
end Go.Proofs.YtmjfkibfakbdmaaDoor.jtokUnquote
namespace Go.Proofs.YtmjfkibfakbdmaaDoor
theorem jtokUnquote_card : Rows.JtokUnquoteCardSaid :=
  Claim7.holds_tied_plain_at .later [] [.data, .data, .handle] true (true, "2cbfe54769d386897f7fea380aeb517429f468c18f1297726d800113395f31c9") true
    jtokUnquote.over (fun _ h => by cases h) (by kernel_rfl) (fun _ h => by cases h) jtokUnquote_row_tie rfl ⟨rfl, rfl⟩ (by kernel_rfl) rfl
    (fun f fn hf hfn => by
      obtain rfl : f = 6 := Option.some.inj ((show Tryd.prog.funcNamed Tryd.f6.name = some 6 by kernel_rfl).symm.trans hf) |>.symm
      obtain rfl : fn = Tryd.f6 := (Option.some.inj (Tryd.func6.symm.trans hfn)).symm
      exact ⟨by kernel_rfl, fun j t ht => by
        rw [Tryd.params6] at ht
        have hm : t ∈ [9] := by simpa using Array.mem_of_getElem? ht
        have hall : ([9].all fun u => !Tryd.prog.wantsStandIn u) = true := by kernel_rfl
        exact (show Tryd.prog.wantsStandIn t = false by simpa using List.all_eq_true.1 hall t hm)⟩)
    (by kernel_rfl)
#print axioms jtokUnquote_card
end Go.Proofs.YtmjfkibfakbdmaaDoor
