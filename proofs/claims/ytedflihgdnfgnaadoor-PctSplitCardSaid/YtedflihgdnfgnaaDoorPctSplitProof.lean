/-
  PctSplit (P8.2): for every text, package pct's Split and Query answer what the document's own Split and Query answer (of the text's first hundred bytes), and chapter 8's example comes out. Condition: the listed variables of the library lie as the program's text lays them (tied card).
-/
import Derived.Test.YtedflihgdnfgnaaDoorCards
import Derived.Test.YtedflihgdnfgnaaDoorTie
import Derived.Test.YtedflihgdnfgnaaDoorPcLaid
import Derived.ShutString
import Derived.ChangeOld
import Derived.SevenTiedAt
import Derived.Test.YtedflihgdnfgnaaDoorPcUni
namespace Go.Proofs.YtedflihgdnfgnaaDoor.pctSplit
open Go.ChangeShapes Go.WideShapes Go.ChangeAt Go.RowKit
open Go.ChangeMaps (open_string shut_string)
open Go.Proofs.YtedflihgdnfgnaaDoor.Pc
set_option linter.unusedVariables false
set_option linter.unusedSimpArgs false

theorem own : ownKnob Tryd.prog.godebug = none := by kernel_rfl
theorem laidOut : laidOutB Tryd.prog = true := by kernel_rfl

set_option maxRecDepth 100000 in
set_option maxHeartbeats 8000000 in
theorem walk (a0 : ByteArray) (w0 : a0.size ≤ maxLen) (w : World) (hT : True) :
    Calls Tryd.prog 5 #[.string a0] w fun e w' => e = .returned (.bool true) ∧ Below w.heap.size w w' := by
  have hsh := Lib.hid (fun W => short_c a0 W w0)
  have hsz := short_sz a0
  revert hsh hsz
  generalize Jt.mkS (shortL a0.data.toList) = s
  intro hsh hsz
  have HD := Lib.hid (Split_c s w (by omega))
  have HR := Lib.hid (fun W => SplitR_c s W (by omega))
  have HQ := Lib.hid (fun W => Query_c s W (by omega))
  have HQR := Lib.hid (fun W => QueryR_c s W (by omega))
  have hql : (qyB (qryL s.data.toList)).length ≤ 501 := by
    cases h : qryL s.data.toList with
    | none => simp [qyB]
    | some q => have h1 := qry_len h; rw [← Jt.size_l] at h1; simp only [qyB]; omega
  have hpl : (spA (splL s.data.toList)).length ≤ 501 ∧ (spB (splL s.data.toList)).length ≤ 501 := by
    cases h : splL s.data.toList with
    | none => simp [spA, spB]
    | some x => have h1 := spl_len h; rw [← Jt.size_l] at h1; simp only [spA, spB]; omega
  clear hT
  revert HD HR HQ HQR hql hpl
  generalize splL s.data.toList = r
  generalize qryL s.data.toList = q
  intro HD HR HQ HQR hql hpl
  obtain ⟨hpa, hpb⟩ := hpl
  go_enter Tryd.func5, Tryd.ntmps5
  go_wp2_with fail
  refine (hsh.out _).mono ?_
  rintro e w' ⟨rfl, rfl⟩
  go_wp2_with fail
  refine HD.out.mono ?_
  intro e w1 h1
  obtain ⟨v1, u1, z1, hz1, rfl, hov1, hou1, hb1⟩ := spq_uni h1
  have HB1 := Lib.hid hb1
  have HV1 := Lib.hid hov1
  have HU1 := Lib.hid hou1
  clear hb1 h1 hov1 hou1
  obtain ⟨ao1, cap1, hv1⟩ := own_len HV1.out
  obtain ⟨bo1, bap1, hu1⟩ := own_len HU1.out
  subst hv1 hu1
  go_wp2_with fail
  refine (HR.out _).mono ?_
  intro e w2 h2
  obtain ⟨v2, u2, rfl, hov2, hou2, hb2⟩ := spw_uni h2
  clear h2
  cases r with
  | none =>
    obtain rfl : z1 = 3 := hz1.out
    simp only [Option.isSome]
    have HB2 : Hid (Below w.heap.size w w2) := HB1.out.trans (hb2.mono HB1.out.size)
    have HOV1 := Lib.hid (HV1.out.go hb2)
    have HOU1 := Lib.hid (HU1.out.go hb2)
    have HOV2 := Lib.hid hov2
    have HOU2 := Lib.hid hou2
    clear hb2 hov2 hou2 HV1 HU1
    have HS := Lib.hid (same_c _ _ _ _ _ w2 HOU1.out HOU2.out (by omega))
    obtain ⟨ao2, cap2, hv2⟩ := own_len HOV2.out
    obtain ⟨bo2, bap2, hu2⟩ := own_len HOU2.out
    subst hv2 hu2
    go_wp2_with fail
    refine HS.out.mono ?_
    rintro e w3 ⟨rfl, hb3⟩
    have HB3 : Hid (Below w.heap.size w w3) := HB2.out.trans (hb3.mono HB2.out.size)
    have HP1 := Lib.hid (HOV1.out.go hb3)
    have HP2 := Lib.hid (HOV2.out.go hb3)
    clear hb3
    go_wp2
    go_loopw [55] (fun v wr => ∃ j : Nat, j ≤ (spA none).length ∧ v = .int .i64 j ∧ Below w3.heap.size w3 wr) (fun v _ => (spA none).length - (intOf v).toNat)
    case atStart => exact ⟨0, by omega, rfl, Below.refl _ _⟩
    case round =>
      obtain ⟨j, hj, rfl, hB⟩ := hrel
      by_cases hlt : j < (spA none).length
      · obtain ⟨g1, c1, e1, hg1, hc1, hat1⟩ := ows_at HP1.out (by omega)
        obtain ⟨g2, c2, e2, hg2, hc2, hat2⟩ := ows_at HP2.out (by omega)
        injection e1 with e1a e1b e1c
        injection e2 with e2a e2b e2c
        subst e1a e2a e1c e2c
        have p0 : wr.cell? ⟨g1, j, none⟩ = some (.string (Jt.mkS (spA none)[j])) := (hB.cell (p := ⟨g1, j, none⟩) hg1).trans (hat1 j hlt)
        have r0 : wr.cell? ⟨g2, j, none⟩ = some (.string (Jt.mkS (spA none)[j])) := (hB.cell (p := ⟨g2, j, none⟩) hg2).trans (hat2 j hlt)
        have HB := Lib.hid hB
        clear hB hat1 hat2
        revert p0 r0
        generalize Jt.mkS (spA none)[j] = xx
        intro p0 r0
        have hj0 : (0 : Int) ≤ (j : Int) := by omega
        have hjl : (j : Int) < ((spA none).length : Int) := by omega
        go_wp2
        go_quiet (fail)
        go_wp2
        go_roundw
        case rel => exact ⟨j + 1, by omega, by go_num, bdrw HB.out _⟩
        case measure => simp [intOf]; omega
      · have HB : Hid (Below w.heap.size w wr) := HB3.out.trans (hB.mono HB3.out.size)
        clear hB
        go_wp2_with fail
        refine (HQ.out _).mono ?_
        intro e w5 h5
        obtain ⟨u5, z5, hz5, rfl, hou5, hb5⟩ := qyq_uni h5
        have HB5 : Hid (Below w.heap.size w w5) := HB.out.trans (hb5.mono HB.out.size)
        have HO5 := Lib.hid hou5
        clear h5 hou5 hb5
        obtain ⟨ao5, cap5, hv5⟩ := own_len HO5.out
        subst hv5
        go_wp2_with fail
        refine (HQR.out _).mono ?_
        intro e w6 h6
        obtain ⟨u6, rfl, hou6, hb6⟩ := qyv_uni h6
        have HB6 : Hid (Below w.heap.size w w6) := HB5.out.trans (hb6.mono HB5.out.size)
        have HO6 := Lib.hid (HO5.out.go hb6)
        have HO7 := Lib.hid hou6
        clear h6 hou6 hb6
        have HS2 := Lib.hid (same_c _ _ _ _ _ w6 HO6.out HO7.out (by omega))
        obtain ⟨ao6, cap6, hv6⟩ := own_len HO7.out
        subst hv6
        cases q with
        | none =>
          obtain rfl : z5 = 3 := hz5.out
          simp only [Option.isSome]
          go_wp2_with (first | (go_at_call 15; refine HS2.out.mono ?_; rintro e w7 ⟨rfl, hb7⟩; have HB7 : Hid (Below w.heap.size w w7) := HB6.out.trans (hb7.mono HB6.out.size); clear hb7) | (go_at_call 10; refine (awake_c _).mono ?_; rintro e w9 ⟨rfl, hb9⟩; have HB9 := Lib.hid hb9; clear hb9))
          go_ret
          exact ⟨rfl, HB7.out.trans (HB9.out.mono HB7.out.size)⟩
        | some y =>
          obtain rfl : z5 = 0 := hz5.out
          simp only [Option.isSome]
          go_wp2_with (first | (go_at_call 15; refine HS2.out.mono ?_; rintro e w7 ⟨rfl, hb7⟩; have HB7 : Hid (Below w.heap.size w w7) := HB6.out.trans (hb7.mono HB6.out.size); clear hb7) | (go_at_call 10; refine (awake_c _).mono ?_; rintro e w9 ⟨rfl, hb9⟩; have HB9 := Lib.hid hb9; clear hb9))
          go_ret
          exact ⟨rfl, HB7.out.trans (HB9.out.mono HB7.out.size)⟩

  | some xy =>
    obtain rfl : z1 = 0 := hz1.out
    simp only [Option.isSome]
    have HB2 : Hid (Below w.heap.size w w2) := HB1.out.trans (hb2.mono HB1.out.size)
    have HOV1 := Lib.hid (HV1.out.go hb2)
    have HOU1 := Lib.hid (HU1.out.go hb2)
    have HOV2 := Lib.hid hov2
    have HOU2 := Lib.hid hou2
    clear hb2 hov2 hou2 HV1 HU1
    have HS := Lib.hid (same_c _ _ _ _ _ w2 HOU1.out HOU2.out (by omega))
    obtain ⟨ao2, cap2, hv2⟩ := own_len HOV2.out
    obtain ⟨bo2, bap2, hu2⟩ := own_len HOU2.out
    subst hv2 hu2
    go_wp2_with fail
    refine HS.out.mono ?_
    rintro e w3 ⟨rfl, hb3⟩
    have HB3 : Hid (Below w.heap.size w w3) := HB2.out.trans (hb3.mono HB2.out.size)
    have HP1 := Lib.hid (HOV1.out.go hb3)
    have HP2 := Lib.hid (HOV2.out.go hb3)
    clear hb3
    go_wp2
    go_loopw [55] (fun v wr => ∃ j : Nat, j ≤ (spA (some xy)).length ∧ v = .int .i64 j ∧ Below w3.heap.size w3 wr) (fun v _ => (spA (some xy)).length - (intOf v).toNat)
    case atStart => exact ⟨0, by omega, rfl, Below.refl _ _⟩
    case round =>
      obtain ⟨j, hj, rfl, hB⟩ := hrel
      by_cases hlt : j < (spA (some xy)).length
      · obtain ⟨g1, c1, e1, hg1, hc1, hat1⟩ := ows_at HP1.out (by omega)
        obtain ⟨g2, c2, e2, hg2, hc2, hat2⟩ := ows_at HP2.out (by omega)
        injection e1 with e1a e1b e1c
        injection e2 with e2a e2b e2c
        subst e1a e2a e1c e2c
        have p0 : wr.cell? ⟨g1, j, none⟩ = some (.string (Jt.mkS (spA (some xy))[j])) := (hB.cell (p := ⟨g1, j, none⟩) hg1).trans (hat1 j hlt)
        have r0 : wr.cell? ⟨g2, j, none⟩ = some (.string (Jt.mkS (spA (some xy))[j])) := (hB.cell (p := ⟨g2, j, none⟩) hg2).trans (hat2 j hlt)
        have HB := Lib.hid hB
        clear hB hat1 hat2
        revert p0 r0
        generalize Jt.mkS (spA (some xy))[j] = xx
        intro p0 r0
        have hj0 : (0 : Int) ≤ (j : Int) := by omega
        have hjl : (j : Int) < ((spA (some xy)).length : Int) := by omega
        go_wp2
        go_quiet (fail)
        go_wp2
        go_roundw
        case rel => exact ⟨j + 1, by omega, by go_num, bdrw HB.out _⟩
        case measure => simp [intOf]; omega
      · have HB : Hid (Below w.heap.size w wr) := HB3.out.trans (hB.mono HB3.out.size)
        clear hB
        go_wp2_with fail
        refine (HQ.out _).mono ?_
        intro e w5 h5
        obtain ⟨u5, z5, hz5, rfl, hou5, hb5⟩ := qyq_uni h5
        have HB5 : Hid (Below w.heap.size w w5) := HB.out.trans (hb5.mono HB.out.size)
        have HO5 := Lib.hid hou5
        clear h5 hou5 hb5
        obtain ⟨ao5, cap5, hv5⟩ := own_len HO5.out
        subst hv5
        go_wp2_with fail
        refine (HQR.out _).mono ?_
        intro e w6 h6
        obtain ⟨u6, rfl, hou6, hb6⟩ := qyv_uni h6
        have HB6 : Hid (Below w.heap.size w w6) := HB5.out.trans (hb6.mono HB5.out.size)
        have HO6 := Lib.hid (HO5.out.go hb6)
        have HO7 := Lib.hid hou6
        clear h6 hou6 hb6
        have HS2 := Lib.hid (same_c _ _ _ _ _ w6 HO6.out HO7.out (by omega))
        obtain ⟨ao6, cap6, hv6⟩ := own_len HO7.out
        subst hv6
        cases q with
        | none =>
          obtain rfl : z5 = 3 := hz5.out
          simp only [Option.isSome]
          go_wp2_with (first | (go_at_call 15; refine HS2.out.mono ?_; rintro e w7 ⟨rfl, hb7⟩; have HB7 : Hid (Below w.heap.size w w7) := HB6.out.trans (hb7.mono HB6.out.size); clear hb7) | (go_at_call 10; refine (awake_c _).mono ?_; rintro e w9 ⟨rfl, hb9⟩; have HB9 := Lib.hid hb9; clear hb9))
          go_ret
          exact ⟨rfl, HB7.out.trans (HB9.out.mono HB7.out.size)⟩
        | some y =>
          obtain rfl : z5 = 0 := hz5.out
          simp only [Option.isSome]
          go_wp2_with (first | (go_at_call 15; refine HS2.out.mono ?_; rintro e w7 ⟨rfl, hb7⟩; have HB7 : Hid (Below w.heap.size w w7) := HB6.out.trans (hb7.mono HB6.out.size); clear hb7) | (go_at_call 10; refine (awake_c _).mono ?_; rintro e w9 ⟨rfl, hb9⟩; have HB9 := Lib.hid hb9; clear hb9))
          go_ret
          exact ⟨rfl, HB7.out.trans (HB9.out.mono HB7.out.size)⟩


set_option maxRecDepth 100000 in
theorem lifted (os : Os) (started : os.Started) (H : Type) (enc : TypeId × Value → H) :
    ReturnsInHanded {} Tryd.checked os 5 .any (fun w args => (Rows.pctSplitSpec.pre enc Tryd.prog Tryd.f5 [] false w args ∧ laidMetH Tryd.prog [("unicode/utf8.acceptRanges", Rows.laid_unicode_utf8_acceptRanges), ("unicode/utf8.first", Rows.laid_unicode_utf8_first)] w) ∧ sizedMet enc Tryd.prog Tryd.f5 (OpenSpec.ofChange Rows.pctSplitSpec) false w args)
      (Rows.pctSplitSpec.post enc Tryd.prog Tryd.f5 false true false false) := by
  refine returnsInHanded_of_change_and (C := Tryd.checked) (X := fun w _ => laidMetH Tryd.prog [("unicode/utf8.acceptRanges", Rows.laid_unicode_utf8_acceptRanges), ("unicode/utf8.first", Rows.laid_unicode_utf8_first)] w) (fun _ _ _ hh h => h.of_heap hh) own started (by kernel_rfl) Tryd.func5
    (ChangeSpec.witness_shaped (enc := enc) (C := Tryd.checked) (os := os) (X := fun w _ => laidMetH Tryd.prog [("unicode/utf8.acceptRanges", Rows.laid_unicode_utf8_acceptRanges), ("unicode/utf8.first", Rows.laid_unicode_utf8_first)] w) false (World.laidAll Tryd.prog os [("unicode/utf8.acceptRanges", Rows.laid_unicode_utf8_acceptRanges), ("unicode/utf8.first", Rows.laid_unicode_utf8_first)]) #[.string ByteArray.empty] 8 (World.laidAll_os _ _ _) (World.shaped_of_ZipB (by kernel_rfl) (by kernel_rfl)) (by kernel_rfl) (by kernel_rfl) (by kernel_rfl) (door_met os _)) ?_
  intro W base args ds gs before hval0 hW _ _ hL _
  have hval : ∀ (j : Nat) t v, Tryd.f5.params[j]? = some t → args[j]? = some v → Value.okWide Tryd.prog W .any base t v := hval0
  have hW' := hW
  obtain ⟨p, q, hA0, hV, rfl, hfz, hnd⟩ := hW
  have hA : DataW.TrodAll enc Tryd.prog W 0 (fun _ => true) true Tryd.f5.params.toList args.toList ds p := hA0
  rw [Tryd.params5] at hA hval
  obtain ⟨v0, vs0, d0, ds0, p0, q0, hargs, rfl, rfl, h0, r0⟩ := trodAll_cons hA
  obtain ⟨rfl, rfl, rfl⟩ := trodAll_nil r0
  obtain rfl : args = #[v0] := by cases args; simp_all
  obtain ⟨rfl, rfl⟩ := trodVars_none hV
  obtain ⟨a0, rfl, rfl, rfl, w0⟩ := open_string Tryd.underlying9 (hval 0 9 v0 rfl rfl) h0
  clear hA0 hval0
  have hT := of_laid hL
  refine (walk a0 w0 W hT).mono fun e W' ⟨he, bel⟩ => ?_
  subst he
  exact ⟨_, rfl, _, _, _, [], _, [], hW', trodAll_mk1 (shut_bool Tryd.underlying4 _), (trodAll_cons_mk (shut_string Tryd.underlying9 w0) trodAll_mk0), rfl, bel.frame _, fun h => by cases h⟩

theorem over : Rows.PctSplitSaid :=
  OpenClaim.holds_of_wide 5 Tryd.f5 rfl rfl rfl rfl rfl rfl rfl ⟨rfl, rfl, rfl, rfl, rfl⟩ rfl rfl rfl rfl rfl (by kernel_rfl) Tryd.func5 (by kernel_rfl)
    (of_decide_eq_true (by kernel_rfl)) (by unfold Func.isWrapper; first | (rw [if_pos (by decide +kernel)]; kernel_rfl) | (rw [if_neg (by decide +kernel)]; exact ⟨rfl, rfl⟩))
    (fun os started H enc _ => lifted os started H enc)
end Go.Proofs.YtedflihgdnfgnaaDoor.pctSplit
namespace Go.Proofs.YtedflihgdnfgnaaDoor
theorem pctSplit_card : Rows.PctSplitCardSaid :=
  Claim7.holds_tied_plain_at .later [] [.data, .pinned] true (true, "dfc990a6499bc4064c696c79795bf3d4037fc153c18de73c2506420c5cec7308") false
    pctSplit.over (fun _ h => by cases h) (by kernel_rfl) (fun _ h => by cases h) pctSplit_row_tie rfl ⟨rfl, rfl⟩ (by kernel_rfl) rfl
    (fun f fn hf hfn => by
      obtain rfl : f = 5 := Option.some.inj ((show Tryd.prog.funcNamed Tryd.f5.name = some 5 by kernel_rfl).symm.trans hf) |>.symm
      obtain rfl : fn = Tryd.f5 := (Option.some.inj (Tryd.func5.symm.trans hfn)).symm
      exact ⟨by kernel_rfl, fun j t ht => by
        rw [Tryd.params5] at ht
        have hm : t ∈ [9] := by simpa using Array.mem_of_getElem? ht
        have hall : ([9].all fun u => !Tryd.prog.wantsStandIn u) = true := by kernel_rfl
        exact (show Tryd.prog.wantsStandIn t = false by simpa using List.all_eq_true.1 hall t hm)⟩)
    (by kernel_rfl)
#print axioms pctSplit_card
end Go.Proofs.YtedflihgdnfgnaaDoor
