/-
  For every text and every place, Next of package jtok is as the document's own answer (of the text's first hundred and twenty bytes), and the chapter's example holds. Condition: utf's two tables and errors.errorType lie as the program's text lays them (the card ties them to that text)
-/
import Derived.Test.YtmjfkibfakbdmaaDoorCards
import Derived.Test.YtmjfkibfakbdmaaDoorTie
import Derived.Test.YtmjfkibfakbdmaaDoorJtLaid
import Derived.ShutString
import Derived.ChangeOld
import Derived.SevenTiedAt
import Derived.Test.YtmjfkibfakbdmaaDoorJtAwake
import Derived.Test.YtmjfkibfakbdmaaDoorJtRef5
namespace Go.Proofs.YtmjfkibfakbdmaaDoor.jtokNext
open Go.ChangeShapes Go.WideShapes Go.ChangeAt Go.RowKit
open Go.ChangeMaps (open_string shut_string)
open Go.Proofs.YtmjfkibfakbdmaaDoor.Jt
set_option linter.unusedVariables false
set_option linter.unusedSimpArgs false

theorem own : ownKnob Tryd.prog.godebug = none := by kernel_rfl
theorem laidOut : laidOutB Tryd.prog = true := by kernel_rfl

set_option maxRecDepth 100000 in
set_option maxHeartbeats 8000000 in
theorem walk_arg (s : ByteArray) (a0 : ByteArray) (a1 : Int) (w : World) (hE : Env w) (hsz : s.size ≤ 120) (hsh : Hid (∀ W : World, Calls Tryd.prog 7 #[.string a0] W fun e w' => e = .returned (.string s) ∧ W = w')) (h : a1 < 0 ∨ (s.size : Int) < a1) :
    Calls Tryd.prog 3 #[.string a0, .int .i64 a1] w fun e w' => e = .returned (.bool true) ∧ Below w.heap.size w w' := by
  have HN := Lib.hid (Next_arg s a1 w hE (by omega) h)
  simp only [ret2, zT_v, tokV, emS] at HN
  have HE := Lib.hid hE
  have hs := stood
  clear hE
  rcases (show a1 < 0 ∨ (0 ≤ a1 ∧ (s.size : Int) < a1) by omega) with h1 | ⟨h0, h1⟩
  · clear h
    go_enter Tryd.func3, Tryd.ntmps3
    go_wp2_with (first | (go_at_call 7; refine (hsh.out _).mono ?_; rintro e w' ⟨rfl, rfl⟩) | (go_at_call 8; refine HN.out.mono ?_; rintro e w1 ⟨rfl, hb1⟩; have HB1 := Lib.hid hb1; have HE1 := Lib.hid ((HE.out.go hb1).alloc (.cells #[.int .i64 0, .int .i64 0, .int .i64 0, .string ⟨#[]⟩, .int .i64 0] 24)); clear hb1) | (go_at_call 9; refine (awake_c _ HE1.out).mono ?_; rintro e w9 ⟨rfl, hb9⟩; have HB9 := Lib.hid hb9; clear hb9))
    go_ret
    exact ⟨rfl, (HB1.out.alloc HB1.out.size _).trans (HB9.out.mono (by have := HB1.out.size; simp; omega))⟩
  · clear h
    have h0' : ¬ a1 < 0 := by omega
    go_enter Tryd.func3, Tryd.ntmps3
    go_wp2_with (first | (go_at_call 7; refine (hsh.out _).mono ?_; rintro e w' ⟨rfl, rfl⟩) | (go_at_call 8; refine HN.out.mono ?_; rintro e w1 ⟨rfl, hb1⟩; have HB1 := Lib.hid hb1; have HE1 := Lib.hid ((HE.out.go hb1).alloc (.cells #[.int .i64 0, .int .i64 0, .int .i64 0, .string ⟨#[]⟩, .int .i64 0] 24)); clear hb1) | (go_at_call 9; refine (awake_c _ HE1.out).mono ?_; rintro e w9 ⟨rfl, hb9⟩; have HB9 := Lib.hid hb9; clear hb9))
    go_ret
    exact ⟨rfl, (HB1.out.alloc HB1.out.size _).trans (HB9.out.mono (by have := HB1.out.size; simp; omega))⟩
set_option maxRecDepth 100000 in
set_option maxHeartbeats 8000000 in
theorem walk_in (s : ByteArray) (a0 : ByteArray) (k : Nat) (w : World) (hE : Env w) (hsz : s.size ≤ 120) (hsh : Hid (∀ W : World, Calls Tryd.prog 7 #[.string a0] W fun e w' => e = .returned (.string s) ∧ W = w')) (hk : k ≤ s.size) :
    Calls Tryd.prog 3 #[.string a0, .int .i64 (k : Int)] w fun e w' => e = .returned (.bool true) ∧ Below w.heap.size w w' := by
  have HN := Lib.hid (Next_c s k w hE (by omega) hk)
  have HR := Lib.hid (fun W => nextR_c s k W (by omega) hk)
  have HE := Lib.hid hE
  clear hE
  revert HN HR
  generalize tokA s.data.toList k = r
  intro HN HR
  obtain ⟨⟨tk, ta, tb, tt, tn⟩, te⟩ := r
  simp only [ret2, tkV, tokV] at HN HR
  have HL := Lib.hid (fun W => like_c tk ta tb tn (mkS tt) W)
  have hd0 : ¬ (k : Int) < 0 := by omega
  have hd1 : ¬ (s.size : Int) < (k : Int) := by omega
  go_enter Tryd.func3, Tryd.ntmps3
  go_wp2_with fail
  refine (hsh.out _).mono ?_
  rintro e w' ⟨rfl, rfl⟩
  go_wp2_with fail
  refine HN.out.mono ?_
  rintro e w1 ⟨rfl, hb1⟩
  have HB1 := Lib.hid hb1
  clear hb1
  go_wp2_with fail
  refine (HR.out _).mono ?_
  rintro e w2 ⟨rfl, hb2⟩
  have HBK := Lib.hid (keep5 hb2 rfl)
  have HB2 : Hid (Below w.heap.size w w2) := (HB1.out.alloc HB1.out.size _).trans (hb2.mono (by have := HB1.out.size; simp; omega))
  have hl12 : w1.heap.size < w2.heap.size := (Array.getElem?_eq_some_iff.1 HBK.out).1
  clear hb2
  have c0 := Ut.blk_cell HBK.out 0
  have c1 := Ut.blk_cell HBK.out 1
  have c2 := Ut.blk_cell HBK.out 2
  have c3 := Ut.blk_cell HBK.out 3
  have c4 := Ut.blk_cell HBK.out 4
  go_wp2_with (first | (go_at_call 11; refine (HL.out _).mono ?_; rintro e w3 ⟨rfl, hb3⟩; have HB3 : Hid (Below w.heap.size w w3) := (HB2.out.alloc HB2.out.size _).trans (hb3.mono (by have := HB2.out.size; simp; omega)); have HE3 := Lib.hid (HE.out.go HB3.out); clear hb3) | (go_at_call 9; refine (awake_c _ HE3.out).mono ?_; rintro e w9 ⟨rfl, hb9⟩; have HB9 := Lib.hid hb9; clear hb9))
  go_ret
  exact ⟨rfl, HB3.out.trans (HB9.out.mono HB3.out.size)⟩
theorem walk (a0 : ByteArray) (w0 : a0.size ≤ maxLen) (a1 : Int) (w1 : (Lit.int .i64 a1).wf = true) (w : World) (hT : Env w) :
    Calls Tryd.prog 3 #[.string a0, .int .i64 a1] w fun e w' => e = .returned (.bool true) ∧ Below w.heap.size w w' := by
  have hsh := Lib.hid (fun W => short_c a0 W w0)
  have hsz := short_sz a0
  revert hsh hsz
  generalize mkS (shortL a0.data.toList) = s
  intro hsh hsz
  by_cases h : a1 < 0 ∨ (s.size : Int) < a1
  · exact walk_arg s a0 a1 w hT hsz hsh h
  · obtain ⟨k, rfl⟩ : ∃ k : Nat, a1 = (k : Int) := ⟨a1.toNat, by omega⟩
    exact walk_in s a0 k w hT hsz hsh (by omega)

set_option maxRecDepth 100000 in
theorem lifted (os : Os) (started : os.Started) (H : Type) (enc : TypeId × Value → H) :
    ReturnsInHanded {} Tryd.checked os 3 .any (fun w args => (Rows.jtokNextSpec.pre enc Tryd.prog Tryd.f3 [] false w args ∧ laidMetH Tryd.prog [("larum/utf.firsts", Rows.laid_larum_utf_firsts), ("larum/utf.leads", Rows.laid_larum_utf_leads), ("errors.errorType", Rows.laid_errors_errorType)] w) ∧ sizedMet enc Tryd.prog Tryd.f3 (OpenSpec.ofChange Rows.jtokNextSpec) false w args)
      (Rows.jtokNextSpec.post enc Tryd.prog Tryd.f3 false true false false) := by
  refine returnsInHanded_of_change_and (C := Tryd.checked) (X := fun w _ => laidMetH Tryd.prog [("larum/utf.firsts", Rows.laid_larum_utf_firsts), ("larum/utf.leads", Rows.laid_larum_utf_leads), ("errors.errorType", Rows.laid_errors_errorType)] w) (fun _ _ _ hh h => h.of_heap hh) own started (by kernel_rfl) Tryd.func3
    (ChangeSpec.witness_shaped (enc := enc) (C := Tryd.checked) (os := os) (X := fun w _ => laidMetH Tryd.prog [("larum/utf.firsts", Rows.laid_larum_utf_firsts), ("larum/utf.leads", Rows.laid_larum_utf_leads), ("errors.errorType", Rows.laid_errors_errorType)] w) false (World.doorLaid Tryd.prog 400 os) #[.string ByteArray.empty, .int .i64 0] 8 rfl (World.shaped_of_RefB (by kernel_rfl) (by kernel_rfl)) (by kernel_rfl) (by kernel_rfl) (by kernel_rfl) (door_met os _)) ?_
  intro W base args ds gs before hval0 hW _ _ hL _
  have hval : ∀ (j : Nat) t v, Tryd.f3.params[j]? = some t → args[j]? = some v → Value.okWide Tryd.prog W .any base t v := hval0
  have hW' := hW
  obtain ⟨p, q, hA0, hV, rfl, hfz, hnd⟩ := hW
  have hA : DataW.TrodAll enc Tryd.prog W 0 (fun _ => true) true Tryd.f3.params.toList args.toList ds p := hA0
  rw [Tryd.params3] at hA hval
  obtain ⟨v0, vs0, d0, ds0, p0, q0, hargs, rfl, rfl, h0, r0⟩ := trodAll_cons hA
  obtain ⟨v1, vs1, d1, ds1, p1, q1, rfl, rfl, rfl, h1, r1⟩ := trodAll_cons r0
  obtain ⟨rfl, rfl, rfl⟩ := trodAll_nil r1
  obtain rfl : args = #[v0, v1] := by cases args; simp_all
  obtain ⟨rfl, rfl⟩ := trodVars_none hV
  obtain ⟨a0, rfl, rfl, rfl, w0⟩ := open_string Tryd.underlying9 (hval 0 9 v0 rfl rfl) h0
  obtain ⟨a1, rfl, rfl, rfl, w1⟩ := open_int Tryd.underlying3 (hval 1 3 v1 rfl rfl) h1
  clear hA0 hval0
  have hT := of_laid hL
  refine (walk a0 w0 a1 w1 W hT).mono fun e W' ⟨he, bel⟩ => ?_
  subst he
  exact ⟨_, rfl, _, _, _, [], _, [], hW', trodAll_mk1 (shut_bool Tryd.underlying4 _), (trodAll_cons_mk (shut_string Tryd.underlying9 w0) (trodAll_cons_mk (shut_int Tryd.underlying3 w1) trodAll_mk0)), rfl, bel.frame _, fun h => by cases h⟩

theorem over : Rows.JtokNextSaid :=
  OpenClaim.holds_of_wide 3 Tryd.f3 rfl rfl rfl rfl rfl rfl rfl ⟨rfl, rfl, rfl, rfl, rfl⟩ rfl rfl rfl rfl rfl (by kernel_rfl) Tryd.func3 (by kernel_rfl)
    (of_decide_eq_true (by kernel_rfl)) (by unfold Func.isWrapper; first | (rw [if_pos (by decide +kernel)]; kernel_rfl) | (rw [if_neg (by decide +kernel)]; exact ⟨rfl, rfl⟩))
    (fun os started H enc _ => lifted os started H enc)
end Go.Proofs.YtmjfkibfakbdmaaDoor.jtokNext
namespace Go.Proofs.YtmjfkibfakbdmaaDoor
theorem jtokNext_card : Rows.JtokNextCardSaid :=
  Claim7.holds_tied_plain_at .later [] [.data, .data, .handle] true (true, "2cbfe54769d386897f7fea380aeb517429f468c18f1297726d800113395f31c9") true
    jtokNext.over (fun _ h => by cases h) (by kernel_rfl) (fun _ h => by cases h) jtokNext_row_tie rfl ⟨rfl, rfl⟩ (by kernel_rfl) rfl
    (fun f fn hf hfn => by
      obtain rfl : f = 3 := Option.some.inj ((show Tryd.prog.funcNamed Tryd.f3.name = some 3 by kernel_rfl).symm.trans hf) |>.symm
      obtain rfl : fn = Tryd.f3 := (Option.some.inj (Tryd.func3.symm.trans hfn)).symm
      exact ⟨by kernel_rfl, fun j t ht => by
        rw [Tryd.params3] at ht
        have hm : t ∈ [9, 3] := by simpa using Array.mem_of_getElem? ht
        have hall : ([9, 3].all fun u => !Tryd.prog.wantsStandIn u) = true := by kernel_rfl
        exact (show Tryd.prog.wantsStandIn t = false by simpa using List.all_eq_true.1 hall t hm)⟩)
    (by kernel_rfl)
#print axioms jtokNext_card
end Go.Proofs.YtmjfkibfakbdmaaDoor
