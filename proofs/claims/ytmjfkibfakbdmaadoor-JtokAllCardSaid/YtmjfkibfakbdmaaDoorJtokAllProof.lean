/-
  For every text, All of package jtok is as the document's own answer (of the text's first hundred and twenty bytes), and the chapter's example holds. Condition: utf's two tables and errors.errorType lie as the program's text lays them (the card ties them to that text)
-/
import Derived.Test.YtmjfkibfakbdmaaDoorCards
import Derived.Test.YtmjfkibfakbdmaaDoorTie
import Derived.Test.YtmjfkibfakbdmaaDoorJtLaid
import Derived.ShutString
import Derived.ChangeOld
import Derived.SevenTiedAt
import Derived.Test.YtmjfkibfakbdmaaDoorJtAwake
import Derived.Test.YtmjfkibfakbdmaaDoorJtAllR
import Derived.StillTailTactics
namespace Go.Proofs.YtmjfkibfakbdmaaDoor.jtokAll
open Go.ChangeShapes Go.WideShapes Go.ChangeAt Go.RowKit
open Go.ChangeMaps (open_string shut_string)
open Go.Proofs.YtmjfkibfakbdmaaDoor.Jt
set_option linter.unusedVariables false
set_option linter.unusedSimpArgs false

theorem own : ownKnob Tryd.prog.godebug = none := by kernel_rfl
theorem laidOut : laidOutB Tryd.prog = true := by kernel_rfl

theorem allF_len (l : List UInt8) : ∀ (f k : Nat), k ≤ l.length → (allF l f k).1.length ≤ l.length - k
  | 0, k, _ => by simp [allF]
  | f + 1, k, hk => by
    unfold allF
    by_cases h1 : (tokA l k).2 = 6
    · rw [if_pos h1]; simp
    · rw [if_neg h1]
      by_cases h2 : (tokA l k).2 ≠ 0
      · rw [if_pos h2]; simp
      · rw [if_neg h2]
        have hb := tokA_bd hk (by omega)
        have := allF_len l f _ hb.2
        show (allF l f (tokA l k).1.b).1.length + 1 ≤ _
        omega
theorem all_len (l : List UInt8) : (allA l 0).1.length ≤ l.length := allF_len l _ 0 (by omega)
theorem ow_len {T : TypeId} {B : Nat} {v : Value} {ts : List Jt.Tok} {w : World} (h : OwT T B v ts w) : ∃ ao cap, v = .slice ao ts.length cap := by
  rcases h.2 with ⟨rfl, h0⟩ | ⟨g, cap, cur, rfl, _⟩
  · exact ⟨_, 0, by rw [h0]⟩
  · exact ⟨_, _, rfl⟩
theorem ow_at {T : TypeId} {B : Nat} {v : Value} {ts : List Jt.Tok} {w : World} (h : OwT T B v ts w) (hn : 0 < ts.length) : ∃ g cap, v = .slice (some ⟨g, 0, none⟩) ts.length cap ∧ g < w.heap.size ∧ ts.length ≤ cap ∧ ∀ i (hi : i < ts.length) j, j < 5 → w.cell? ⟨g, i * 5 + j, none⟩ = (tkC ts[i])[j]? := by
  rcases h.2 with ⟨rfl, h0⟩ | ⟨g, cap, cur, rfl, hB, hg, hc, hcm, hsz, htk⟩
  · omega
  · refine ⟨g, cap, rfl, (Array.getElem?_eq_some_iff.1 hg).1, hc, fun i hi j hj => ?_⟩
    rw [Ut.blk_cell hg, ← tksC_at hi j hj, ← htk, List.getElem?_take_of_lt (by omega), Array.getElem?_toList]
set_option maxRecDepth 100000 in
set_option maxHeartbeats 8000000 in
theorem walk (a0 : ByteArray) (w0 : a0.size ≤ maxLen) (w : World) (hT : Env w) :
    Calls Tryd.prog 4 #[.string a0] w fun e w' => e = .returned (.bool true) ∧ Below w.heap.size w w' := by
  have hsh := Lib.hid (fun W => short_c a0 W w0)
  have hsz := short_sz a0
  revert hsh hsz
  generalize mkS (shortL a0.data.toList) = s
  intro hsh hsz
  have HA := Lib.hid (All_c s w hT (by omega))
  have HR := Lib.hid (fun W => AllR_c s W (by omega))
  have HE := Lib.hid hT
  have hln : (allA s.data.toList 0).1.length ≤ 1000 := by
    have := all_len s.data.toList
    rw [← size_l] at this; omega
  clear hT
  unfold AlP at HA HR
  revert HA HR hln
  generalize allA s.data.toList 0 = r
  intro HA HR hln
  obtain ⟨ts, q, te⟩ := r
  simp only at HA HR hln
  go_enter Tryd.func4, Tryd.ntmps4
  go_wp2_with fail
  refine (hsh.out _).mono ?_
  rintro e w' ⟨rfl, rfl⟩
  go_wp2_with fail
  refine HA.out.mono ?_
  rintro e w1 ⟨v1, rfl, ho1, hb1⟩
  have HB1 := Lib.hid hb1
  have HO1 := Lib.hid ho1
  clear hb1 ho1
  go_wp2_with fail
  refine (HR.out _).mono ?_
  rintro e w2 ⟨v2, rfl, ho2, hb2⟩
  have HO12 := Lib.hid (HO1.out.go hb2)
  have HO2 := Lib.hid ho2
  have HB2 : Hid (Below w.heap.size w w2) := HB1.out.trans (hb2.mono HB1.out.size)
  clear hb2 ho2
  obtain ⟨ao1, cap1, hv1⟩ := ow_len HO12.out
  obtain ⟨ao2, cap2, hv2⟩ := ow_len HO2.out
  subst hv1 hv2
  go_wp2
  go_loopw [41] (fun v wr => ∃ j : Nat, j ≤ ts.length ∧ v = .int .i64 j ∧ Below w2.heap.size w2 wr) (fun v _ => ts.length - (intOf v).toNat)
  case atStart => exact ⟨0, by omega, rfl, Below.refl _ _⟩
  case round =>
    obtain ⟨j, hj, rfl, hB⟩ := hrel
    have HB := Lib.hid hB
    clear hB
    by_cases hlt : j < ts.length
    · obtain ⟨g1, c1, e1, hg1, hc1, hat1⟩ := ow_at HO12.out (by omega)
      obtain ⟨g2, c2, e2, hg2, hc2, hat2⟩ := ow_at HO2.out (by omega)
      injection e1 with e1a e1b e1c
      injection e2 with e2a e2b e2c
      subst e1a e2a e1c e2c
      have HT1 : Hid (∀ i, i < 5 → wr.cell? ⟨g1, j * 5 + i, none⟩ = (tkC ts[j])[i]?) := fun i hi => (HB.out.cell (p := ⟨g1, j * 5 + i, none⟩) hg1).trans (hat1 j hlt i hi)
      have HT2 : Hid (∀ i, i < 5 → wr.cell? ⟨g2, j * 5 + i, none⟩ = (tkC ts[j])[i]?) := fun i hi => (HB.out.cell (p := ⟨g2, j * 5 + i, none⟩) hg2).trans (hat2 j hlt i hi)
      clear hat1 hat2
      revert HT1 HT2
      generalize ts[j] = t
      intro HT1 HT2
      obtain ⟨tk, ta, tb, tt, tn⟩ := t
      have HLK := Lib.hid (fun W => like_c tk ta tb tn (mkS tt) W)
      have p0 : wr.cell? ⟨g1, j * 5, none⟩ = some (.int .i64 tk) := HT1.out 0 (by omega)
      have p1 : wr.cell? ⟨g1, j * 5 + 1, none⟩ = some (.int .i64 ta) := HT1.out 1 (by omega)
      have p2 : wr.cell? ⟨g1, j * 5 + 2, none⟩ = some (.int .i64 tb) := HT1.out 2 (by omega)
      have p3 : wr.cell? ⟨g1, j * 5 + 3, none⟩ = some (.string (mkS tt)) := HT1.out 3 (by omega)
      have p4 : wr.cell? ⟨g1, j * 5 + 4, none⟩ = some (.int .i64 tn) := HT1.out 4 (by omega)
      have r0 : wr.cell? ⟨g2, j * 5, none⟩ = some (.int .i64 tk) := HT2.out 0 (by omega)
      have r1 : wr.cell? ⟨g2, j * 5 + 1, none⟩ = some (.int .i64 ta) := HT2.out 1 (by omega)
      have r2 : wr.cell? ⟨g2, j * 5 + 2, none⟩ = some (.int .i64 tb) := HT2.out 2 (by omega)
      have r3 : wr.cell? ⟨g2, j * 5 + 3, none⟩ = some (.string (mkS tt)) := HT2.out 3 (by omega)
      have r4 : wr.cell? ⟨g2, j * 5 + 4, none⟩ = some (.int .i64 tn) := HT2.out 4 (by omega)
      have hj0 : (0 : Int) ≤ (j : Int) := by omega
      have hjl : (j : Int) < (ts.length : Int) := by omega
      clear HT1 HT2
      go_wp2
      go_still_tail 8, (by kernel_rfl)
      change wpList _ _ _ _ _ wr.drew
      have HW2 : Hid (Below w2.heap.size w2 wr.drew) := HB.out.drew
      revert HW2
      generalize wr.drew = w3
      intro HW2
      go_wp2_with (go_at_call 11; refine (HLK.out _).mono ?_; rintro e w4 ⟨rfl, hb4⟩; have HB4 := Lib.hid hb4; clear hb4)
      go_roundw
      case rel => exact ⟨j + 1, by omega, by go_num, HW2.out.trans (HB4.out.mono HW2.out.size)⟩
      case measure => simp [intOf]; omega
    · have hge : ¬ (j : Int) < (ts.length : Int) := by omega
      have HBW : Hid (Below w.heap.size w wr) := HB2.out.trans (HB.out.mono HB2.out.size)
      have HEW := Lib.hid (HE.out.go HBW.out)
      go_wp2_with (go_at_call 9; refine (awake_c _ HEW.out).mono ?_; rintro e w9 ⟨rfl, hb9⟩; have HB9 := Lib.hid hb9; clear hb9)
      go_ret
      exact ⟨rfl, HBW.out.trans (HB9.out.mono HBW.out.size)⟩

set_option maxRecDepth 100000 in
theorem lifted (os : Os) (started : os.Started) (H : Type) (enc : TypeId × Value → H) :
    ReturnsInHanded {} Tryd.checked os 4 .any (fun w args => (Rows.jtokAllSpec.pre enc Tryd.prog Tryd.f4 [] false w args ∧ laidMetH Tryd.prog [("larum/utf.firsts", Rows.laid_larum_utf_firsts), ("larum/utf.leads", Rows.laid_larum_utf_leads), ("errors.errorType", Rows.laid_errors_errorType)] w) ∧ sizedMet enc Tryd.prog Tryd.f4 (OpenSpec.ofChange Rows.jtokAllSpec) false w args)
      (Rows.jtokAllSpec.post enc Tryd.prog Tryd.f4 false true false false) := by
  refine returnsInHanded_of_change_and (C := Tryd.checked) (X := fun w _ => laidMetH Tryd.prog [("larum/utf.firsts", Rows.laid_larum_utf_firsts), ("larum/utf.leads", Rows.laid_larum_utf_leads), ("errors.errorType", Rows.laid_errors_errorType)] w) (fun _ _ _ hh h => h.of_heap hh) own started (by kernel_rfl) Tryd.func4
    (ChangeSpec.witness_shaped (enc := enc) (C := Tryd.checked) (os := os) (X := fun w _ => laidMetH Tryd.prog [("larum/utf.firsts", Rows.laid_larum_utf_firsts), ("larum/utf.leads", Rows.laid_larum_utf_leads), ("errors.errorType", Rows.laid_errors_errorType)] w) false (World.doorLaid Tryd.prog 400 os) #[.string ByteArray.empty] 8 rfl (World.shaped_of_RefB (by kernel_rfl) (by kernel_rfl)) (by kernel_rfl) (by kernel_rfl) (by kernel_rfl) (door_met os _)) ?_
  intro W base args ds gs before hval0 hW _ _ hL _
  have hval : ∀ (j : Nat) t v, Tryd.f4.params[j]? = some t → args[j]? = some v → Value.okWide Tryd.prog W .any base t v := hval0
  have hW' := hW
  obtain ⟨p, q, hA0, hV, rfl, hfz, hnd⟩ := hW
  have hA : DataW.TrodAll enc Tryd.prog W 0 (fun _ => true) true Tryd.f4.params.toList args.toList ds p := hA0
  rw [Tryd.params4] at hA hval
  obtain ⟨v0, vs0, d0, ds0, p0, q0, hargs, rfl, rfl, h0, r0⟩ := trodAll_cons hA
  obtain ⟨rfl, rfl, rfl⟩ := trodAll_nil r0
  obtain rfl : args = #[v0] := by cases args; simp_all
  obtain ⟨rfl, rfl⟩ := trodVars_none hV
  obtain ⟨a0, rfl, rfl, rfl, w0⟩ := open_string Tryd.underlying9 (hval 0 9 v0 rfl rfl) h0
  clear hA0 hval0
  have hT := of_laid hL
  refine (walk a0 w0 W hT).mono fun e W' ⟨he, bel⟩ => ?_
  subst he
  exact ⟨_, rfl, _, _, _, [], _, [], hW', trodAll_mk1 (shut_bool Tryd.underlying4 _), (trodAll_cons_mk (shut_string Tryd.underlying9 w0) trodAll_mk0), rfl, bel.frame _, fun h => by cases h⟩

theorem over : Rows.JtokAllSaid :=
  OpenClaim.holds_of_wide 4 Tryd.f4 rfl rfl rfl rfl rfl rfl rfl ⟨rfl, rfl, rfl, rfl, rfl⟩ rfl rfl rfl rfl rfl (by kernel_rfl) Tryd.func4 (by kernel_rfl)
    (of_decide_eq_true (by kernel_rfl)) (by unfold Func.isWrapper; first | (rw [if_pos (by decide +kernel)]; kernel_rfl) | (rw [if_neg (by decide +kernel)]; exact ⟨rfl, rfl⟩))
    (fun os started H enc _ => lifted os started H enc)
end Go.Proofs.YtmjfkibfakbdmaaDoor.jtokAll
namespace Go.Proofs.YtmjfkibfakbdmaaDoor
theorem jtokAll_card : Rows.JtokAllCardSaid :=
  Claim7.holds_tied_plain_at .later [] [.data, .data, .handle] true (true, "2cbfe54769d386897f7fea380aeb517429f468c18f1297726d800113395f31c9") true
    jtokAll.over (fun _ h => by cases h) (by kernel_rfl) (fun _ h => by cases h) jtokAll_row_tie rfl ⟨rfl, rfl⟩ (by kernel_rfl) rfl
    (fun f fn hf hfn => by
      obtain rfl : f = 4 := Option.some.inj ((show Tryd.prog.funcNamed Tryd.f4.name = some 4 by kernel_rfl).symm.trans hf) |>.symm
      obtain rfl : fn = Tryd.f4 := (Option.some.inj (Tryd.func4.symm.trans hfn)).symm
      exact ⟨by kernel_rfl, fun j t ht => by
        rw [Tryd.params4] at ht
        have hm : t ∈ [9] := by simpa using Array.mem_of_getElem? ht
        have hall : ([9].all fun u => !Tryd.prog.wantsStandIn u) = true := by kernel_rfl
        exact (show Tryd.prog.wantsStandIn t = false by simpa using List.all_eq_true.1 hall t hm)⟩)
    (by kernel_rfl)
#print axioms jtokAll_card
end Go.Proofs.YtmjfkibfakbdmaaDoor
