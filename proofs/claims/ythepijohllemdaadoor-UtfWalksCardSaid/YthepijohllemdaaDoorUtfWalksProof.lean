/-
  For any text, Valid, Bad and Count of package utf are as the document's own walk says (of the text's first sixty bytes), and the chapter's example holds; where the two tables hold what the program's own text lays (the card ties it).
-/
import Derived.Test.YthepijohllemdaaDoorCards
import Derived.Test.YthepijohllemdaaDoorTie
import Derived.Test.YthepijohllemdaaDoorLaid
import Derived.ShutString
import Derived.ChangeOld
import Derived.SevenTiedAt
import Derived.Test.YthepijohllemdaaDoorWalkC
namespace Go.Proofs.YthepijohllemdaaDoor.utfWalks
open Go.ChangeShapes Go.WideShapes Go.ChangeAt Go.RowKit
open Go.ChangeMaps (open_string shut_string)
set_option linter.unusedVariables false
set_option linter.unusedSimpArgs false

theorem own : ownKnob Tryd.prog.godebug = none := by kernel_rfl
theorem laidOut : laidOutB Tryd.prog = true := by kernel_rfl

theorem walkP_le (l : List Int) : ∀ (f n p : Nat), p ≤ l.length → (walkP l f n p).2 ≤ l.length ∧ (walkP l f n p).1 ≤ n + f
  | 0, n, p, h => ⟨h, by simp [walkP]⟩
  | f + 1, n, p, h => by
    unfold walkP
    split
    · rename_i hc
      have hb := nextW_k (l.drop p)
      rw [List.length_drop] at hb
      have := walkP_le l f (n + 1) (p + (nextW (l.drop p)).2.toNat) (by omega)
      exact ⟨this.1, by omega⟩
    · exact ⟨h, by simp⟩
theorem walkL_le (s : ByteArray) : (walkL (nums s)).2 ≤ s.size ∧ (walkL (nums s)).1 ≤ s.size := by
  have := walkP_le (nums s) (nums s).length 0 0 (by omega)
  rw [nums_len] at this
  unfold walkL
  rw [nums_len]
  exact ⟨this.1, by omega⟩
theorem ret_str {a b : ByteArray} (h : a = b) : Ending.returned (.string a) = .returned (.string b) := by rw [h]
theorem short_c (s : ByteArray) (w : World) (hs : s.size ≤ maxLen) : ∃ t : ByteArray, t.size ≤ 60 ∧ ∀ W, Calls Tryd.prog 13 #[.string s] W fun e w' => e = .returned (.string t) ∧ W = w' := by
  unfold maxLen at hs
  by_cases h : 60 < s.size
  · refine ⟨s.extract 0 60, by rw [ByteArray.size_extract]; omega, fun W => ?_⟩
    have h' : (60 : Int) < (s.size : Int) := by omega
    go_enter Tryd.func13, Tryd.ntmps13
    go_wp2
    go_ret
    exact ⟨rfl, rfl⟩
  · refine ⟨s, by omega, fun W => ?_⟩
    have h' : (s.size : Int) ≤ 60 := by omega
    go_enter Tryd.func13, Tryd.ntmps13
    go_wp2
    go_ret
    exact ⟨rfl, rfl⟩

theorem valid_e (s : ByteArray) (n p : Nat) (w : World) (HC : Hid (Calls Tryd.prog 26 #[.string s] w fun e w' => e = tup2 n p ∧ Below w.heap.size w w')) (h : p = s.size) (hs : s.size ≤ 60) :
    Calls Tryd.prog 17 #[.string s] w fun e w' => e = .returned (.bool true) ∧ Below w.heap.size w w' := by
  simp only [tup2] at HC
  have h1 : ((p : Int) == (s.size : Int)) = true := by simp [h]
  have h2 : ¬ ((p : Int) < (s.size : Int)) := by omega
  have h3 : decide (p = s.size) = true := by simp [h]
  clear h
  go_enter Tryd.func17, Tryd.ntmps17
  go_wp2_with (go_at_call 26; refine HC.out.mono ?_; rintro e w2 ⟨rfl, hb2⟩; have HB2 := Lib.hid hb2; clear hb2)
  go_ret
  exact ⟨rfl, HB2.out⟩
theorem bad_e (s : ByteArray) (n p : Nat) (w : World) (HC : Hid (Calls Tryd.prog 26 #[.string s] w fun e w' => e = tup2 n p ∧ Below w.heap.size w w')) (h : p = s.size) (hs : s.size ≤ 60) :
    Calls Tryd.prog 15 #[.string s] w fun e w' => e = .returned (.tuple #[.int .i64 0, .bool false]) ∧ Below w.heap.size w w' := by
  simp only [tup2] at HC
  have h1 : ((p : Int) == (s.size : Int)) = true := by simp [h]
  have h2 : ¬ ((p : Int) < (s.size : Int)) := by omega
  have h3 : decide (p = s.size) = true := by simp [h]
  clear h
  go_enter Tryd.func15, Tryd.ntmps15
  go_wp2_with (go_at_call 26; refine HC.out.mono ?_; rintro e w2 ⟨rfl, hb2⟩; have HB2 := Lib.hid hb2; clear hb2)
  go_ret2
  exact ⟨rfl, HB2.out⟩
theorem count_e (s : ByteArray) (n p : Nat) (w : World) (HC : Hid (Calls Tryd.prog 26 #[.string s] w fun e w' => e = tup2 n p ∧ Below w.heap.size w w')) (h : p = s.size) (hs : s.size ≤ 60) :
    Calls Tryd.prog 16 #[.string s] w fun e w' => e = .returned (.tuple #[.int .i64 (n : Int), .int .i64 0]) ∧ Below w.heap.size w w' := by
  simp only [tup2] at HC
  have h1 : ((p : Int) == (s.size : Int)) = true := by simp [h]
  have h2 : ¬ ((p : Int) < (s.size : Int)) := by omega
  have h3 : decide (p = s.size) = true := by simp [h]
  clear h
  go_enter Tryd.func16, Tryd.ntmps16
  go_wp2_with (go_at_call 26; refine HC.out.mono ?_; rintro e w2 ⟨rfl, hb2⟩; have HB2 := Lib.hid hb2; clear hb2)
  go_ret2
  exact ⟨rfl, HB2.out⟩
theorem valid_n (s : ByteArray) (n p : Nat) (w : World) (HC : Hid (Calls Tryd.prog 26 #[.string s] w fun e w' => e = tup2 n p ∧ Below w.heap.size w w')) (h : p < s.size) (hs : s.size ≤ 60) :
    Calls Tryd.prog 17 #[.string s] w fun e w' => e = .returned (.bool false) ∧ Below w.heap.size w w' := by
  simp only [tup2] at HC
  have h1 : ((p : Int) == (s.size : Int)) = false := by simp; omega
  have h2 : (p : Int) < (s.size : Int) := by omega
  have h3 : decide (p = s.size) = false := by simp; omega
  clear h
  go_enter Tryd.func17, Tryd.ntmps17
  go_wp2_with (go_at_call 26; refine HC.out.mono ?_; rintro e w2 ⟨rfl, hb2⟩; have HB2 := Lib.hid hb2; clear hb2)
  go_ret
  exact ⟨rfl, HB2.out⟩
theorem bad_n (s : ByteArray) (n p : Nat) (w : World) (HC : Hid (Calls Tryd.prog 26 #[.string s] w fun e w' => e = tup2 n p ∧ Below w.heap.size w w')) (h : p < s.size) (hs : s.size ≤ 60) :
    Calls Tryd.prog 15 #[.string s] w fun e w' => e = .returned (.tuple #[.int .i64 (p : Int), .bool true]) ∧ Below w.heap.size w w' := by
  simp only [tup2] at HC
  have h1 : ((p : Int) == (s.size : Int)) = false := by simp; omega
  have h2 : (p : Int) < (s.size : Int) := by omega
  have h3 : decide (p = s.size) = false := by simp; omega
  clear h
  go_enter Tryd.func15, Tryd.ntmps15
  go_wp2_with (go_at_call 26; refine HC.out.mono ?_; rintro e w2 ⟨rfl, hb2⟩; have HB2 := Lib.hid hb2; clear hb2)
  go_ret2
  exact ⟨rfl, HB2.out⟩
theorem count_n (s : ByteArray) (n p : Nat) (w : World) (HC : Hid (Calls Tryd.prog 26 #[.string s] w fun e w' => e = tup2 n p ∧ Below w.heap.size w w')) (h : p < s.size) (hs : s.size ≤ 60) :
    Calls Tryd.prog 16 #[.string s] w fun e w' => e = .returned (.tuple #[.int .i64 0, .int .i64 3]) ∧ Below w.heap.size w w' := by
  simp only [tup2] at HC
  have h1 : ((p : Int) == (s.size : Int)) = false := by simp; omega
  have h2 : (p : Int) < (s.size : Int) := by omega
  have h3 : decide (p = s.size) = false := by simp; omega
  clear h
  go_enter Tryd.func16, Tryd.ntmps16
  go_wp2_with (go_at_call 26; refine HC.out.mono ?_; rintro e w2 ⟨rfl, hb2⟩; have HB2 := Lib.hid hb2; clear hb2)
  go_ret2
  exact ⟨rfl, HB2.out⟩

set_option maxHeartbeats 4000000 in
theorem walk (a0 : ByteArray) (w0 : a0.size ≤ maxLen) (w : World) (hT : Tabs w) :
    Calls Tryd.prog 5 #[.string a0] w fun e w' => e = .returned (.bool true) ∧ Below w.heap.size w w' := by
  obtain ⟨s, hs, hsh⟩ := short_c a0 w w0
  have HSH := Lib.hid hsh
  have HT := Lib.hid hT
  have HR := Lib.hid (fun W => walk_r s W hs)
  have HW : Hid (∀ W, Tabs W → Calls Tryd.prog 26 #[.string s] W fun e w' => e = tup2 (walkL (nums s)).1 (walkL (nums s)).2 ∧ Below W.heap.size W w') := fun W hW => walk_c s W hW hs
  have hle := walkL_le s
  clear hsh hT
  revert HR HW hle
  generalize walkL (nums s) = q
  obtain ⟨n, p⟩ := q
  intro HR HW hle
  simp only [tup2] at HR
  simp only at hle HW
  obtain ⟨hp, hn⟩ := hle
  rcases Nat.lt_or_ge p s.size with h | h
  · have HV : Hid (∀ W, Tabs W → Calls Tryd.prog 17 #[.string s] W _) := fun W hW => valid_n s n p W (HW.out W hW) h hs
    have HBD : Hid (∀ W, Tabs W → Calls Tryd.prog 15 #[.string s] W _) := fun W hW => bad_n s n p W (HW.out W hW) h hs
    have HCT : Hid (∀ W, Tabs W → Calls Tryd.prog 16 #[.string s] W _) := fun W hW => count_n s n p W (HW.out W hW) h hs
    have h1 : ((p : Int) == (s.size : Int)) = false := by simp; omega
    have h3 : decide (p = s.size) = false := by simp; omega
    clear h HW
    go_enter Tryd.func5, Tryd.ntmps5
    go_wp2_with fail
    refine (HSH.out _).mono ?_
    rintro e w' ⟨rfl, rfl⟩
    clear HSH
    have B0 : Hid (Below w.heap.size w w) := Below.refl _ _
    have T0 := HT
    go_wp2_with fail
    refine (HR.out _).mono ?_
    rintro e w1 ⟨rfl, hb1⟩
    have B1 : Hid (Below w.heap.size w w1) := B0.out.trans (hb1.mono B0.out.size)
    have T1 := Lib.hid (T0.out.go hb1)
    clear hb1
    go_wp2_with fail
    refine (HBD.out _ T1.out).mono ?_
    rintro e w2 ⟨rfl, hb2⟩
    have B2 : Hid (Below w.heap.size w w2) := B1.out.trans (hb2.mono B1.out.size)
    have T2 := Lib.hid (T1.out.go hb2)
    clear hb2 B1 T1
    go_wp2_with fail
    refine (HCT.out _ T2.out).mono ?_
    rintro e w3 ⟨rfl, hb3⟩
    have B3 : Hid (Below w.heap.size w w3) := B2.out.trans (hb3.mono B2.out.size)
    have T3 := Lib.hid (T2.out.go hb3)
    clear hb3 B2 T2
    go_wp2_with fail
    refine (HV.out _ T3.out).mono ?_
    rintro e w4 ⟨rfl, hb4⟩
    have B4 : Hid (Below w.heap.size w w4) := B3.out.trans (hb4.mono B3.out.size)
    have T4 := Lib.hid (T3.out.go hb4)
    clear hb4 B3 T3
    go_wp2_with fail
    refine (awake_c _ T4.out).mono ?_
    rintro e w5 ⟨rfl, hb5⟩
    have B5 : Hid (Below w.heap.size w w5) := B4.out.trans (hb5.mono B4.out.size)
    clear hb5
    go_wp2
    go_ret
    exact ⟨rfl, B5.out⟩
  · have h : p = s.size := by omega
    have HV : Hid (∀ W, Tabs W → Calls Tryd.prog 17 #[.string s] W _) := fun W hW => valid_e s n p W (HW.out W hW) h hs
    have HBD : Hid (∀ W, Tabs W → Calls Tryd.prog 15 #[.string s] W _) := fun W hW => bad_e s n p W (HW.out W hW) h hs
    have HCT : Hid (∀ W, Tabs W → Calls Tryd.prog 16 #[.string s] W _) := fun W hW => count_e s n p W (HW.out W hW) h hs
    have h1 : ((p : Int) == (s.size : Int)) = true := by simp [h]
    have h3 : decide (p = s.size) = true := by simp [h]
    clear h HW
    go_enter Tryd.func5, Tryd.ntmps5
    go_wp2_with fail
    refine (HSH.out _).mono ?_
    rintro e w' ⟨rfl, rfl⟩
    clear HSH
    have B0 : Hid (Below w.heap.size w w) := Below.refl _ _
    have T0 := HT
    go_wp2_with fail
    refine (HR.out _).mono ?_
    rintro e w1 ⟨rfl, hb1⟩
    have B1 : Hid (Below w.heap.size w w1) := B0.out.trans (hb1.mono B0.out.size)
    have T1 := Lib.hid (T0.out.go hb1)
    clear hb1
    go_wp2_with fail
    refine (HBD.out _ T1.out).mono ?_
    rintro e w2 ⟨rfl, hb2⟩
    have B2 : Hid (Below w.heap.size w w2) := B1.out.trans (hb2.mono B1.out.size)
    have T2 := Lib.hid (T1.out.go hb2)
    clear hb2 B1 T1
    go_wp2_with fail
    refine (HCT.out _ T2.out).mono ?_
    rintro e w3 ⟨rfl, hb3⟩
    have B3 : Hid (Below w.heap.size w w3) := B2.out.trans (hb3.mono B2.out.size)
    have T3 := Lib.hid (T2.out.go hb3)
    clear hb3 B2 T2
    go_wp2_with fail
    refine (HV.out _ T3.out).mono ?_
    rintro e w4 ⟨rfl, hb4⟩
    have B4 : Hid (Below w.heap.size w w4) := B3.out.trans (hb4.mono B3.out.size)
    have T4 := Lib.hid (T3.out.go hb4)
    clear hb4 B3 T3
    go_wp2_with fail
    refine (awake_c _ T4.out).mono ?_
    rintro e w5 ⟨rfl, hb5⟩
    have B5 : Hid (Below w.heap.size w w5) := B4.out.trans (hb5.mono B4.out.size)
    clear hb5
    go_wp2
    go_ret
    exact ⟨rfl, B5.out⟩

set_option maxRecDepth 100000 in
theorem lifted (os : Os) (started : os.Started) (H : Type) (enc : TypeId × Value → H) :
    ReturnsInHanded {} Tryd.checked os 5 .any (fun w args => (Rows.utfWalksSpec.pre enc Tryd.prog Tryd.f5 [] false w args ∧ laidMetH Tryd.prog [("larum/utf.firsts", Rows.laid_larum_utf_firsts), ("larum/utf.leads", Rows.laid_larum_utf_leads)] w) ∧ sizedMet enc Tryd.prog Tryd.f5 (OpenSpec.ofChange Rows.utfWalksSpec) false w args)
      (Rows.utfWalksSpec.post enc Tryd.prog Tryd.f5 false true false false) := by
  refine returnsInHanded_of_change_and (C := Tryd.checked) (X := fun w _ => laidMetH Tryd.prog [("larum/utf.firsts", Rows.laid_larum_utf_firsts), ("larum/utf.leads", Rows.laid_larum_utf_leads)] w) (fun _ _ _ hh h => h.of_heap hh) own started (by kernel_rfl) Tryd.func5
    (ChangeSpec.witness_shaped (enc := enc) (C := Tryd.checked) (os := os) (X := fun w _ => laidMetH Tryd.prog [("larum/utf.firsts", Rows.laid_larum_utf_firsts), ("larum/utf.leads", Rows.laid_larum_utf_leads)] w) false (World.doorLaid Tryd.prog 400 os) #[.string ByteArray.empty] 8 rfl (World.shaped_of_RefB (by kernel_rfl) (by kernel_rfl)) (by kernel_rfl) (by kernel_rfl) (by kernel_rfl) (door_met os _)) ?_
  intro W base args ds gs before hval0 hW _ _ hL _
  have hval : ∀ (j : Nat) t v, Tryd.f5.params[j]? = some t → args[j]? = some v → Value.okWide Tryd.prog W .any base t v := hval0
  have hW' := hW
  obtain ⟨p, q, hA0, hV, rfl, hfz, hnd⟩ := hW
  have hA : DataW.TrodAll enc Tryd.prog W 0 (fun _ => true) true Tryd.f5.params.toList args.toList ds p := hA0
  rw [Tryd.params5] at hA hval
  obtain ⟨v0, vs0, d0, ds0, p0, q0, hargs, rfl, rfl, h0, r0⟩ := trodAll_cons hA
  obtain ⟨rfl, rfl, rfl⟩ := trodAll_nil r0
  obtain rfl : args = #[v0] := by cases args; simp_all
  obtain ⟨rfl, rfl⟩ := trodVars_none hV
  obtain ⟨a0, rfl, rfl, rfl, w0⟩ := open_string Tryd.underlying9 (hval 0 9 v0 rfl rfl) h0
  clear hA0 hval0
  have hT := of_laid hL
  refine (walk a0 w0 W hT).mono fun e W' ⟨he, bel⟩ => ?_
  subst he
  exact ⟨_, rfl, _, _, _, [], _, [], hW', trodAll_mk1 (shut_bool Tryd.underlying4 _), (trodAll_cons_mk (shut_string Tryd.underlying9 w0) trodAll_mk0), rfl, bel.frame _, fun h => by cases h⟩

theorem over : Rows.UtfWalksSaid :=
  OpenClaim.holds_of_wide 5 Tryd.f5 rfl rfl rfl rfl rfl rfl rfl ⟨rfl, rfl, rfl, rfl, rfl⟩ rfl rfl rfl rfl rfl (by kernel_rfl) Tryd.func5 (by kernel_rfl)
    (of_decide_eq_true (by kernel_rfl)) (by unfold Func.isWrapper; first | (rw [if_pos (by decide +kernel)]; kernel_rfl) | (rw [if_neg (by decide +kernel)]; exact ⟨rfl, rfl⟩))
    (fun os started H enc _ => lifted os started H enc)
end Go.Proofs.YthepijohllemdaaDoor.utfWalks
namespace Go.Proofs.YthepijohllemdaaDoor
theorem utfWalks_card : Rows.UtfWalksCardSaid :=
  Claim7.holds_tied_plain_at .later [] [.data, .data] true (true, "5a88f8ac1afdae99643bef678160593da0a619f8695168da0bc9806d527633f8") false
    utfWalks.over (fun _ h => by cases h) (by kernel_rfl) (fun _ h => by cases h) utfWalks_row_tie rfl ⟨rfl, rfl⟩ (by kernel_rfl) rfl
    (fun f fn hf hfn => by
      obtain rfl : f = 5 := Option.some.inj ((show Tryd.prog.funcNamed Tryd.f5.name = some 5 by kernel_rfl).symm.trans hf) |>.symm
      obtain rfl : fn = Tryd.f5 := (Option.some.inj (Tryd.func5.symm.trans hfn)).symm
      exact ⟨by kernel_rfl, fun j t ht => by
        rw [Tryd.params5] at ht
        have hm : t ∈ [9] := by simpa using Array.mem_of_getElem? ht
        have hall : ([9].all fun u => !Tryd.prog.wantsStandIn u) = true := by kernel_rfl
        exact (show Tryd.prog.wantsStandIn t = false by simpa using List.all_eq_true.1 hall t hm)⟩)
    (by kernel_rfl)
#print axioms utfWalks_card
end Go.Proofs.YthepijohllemdaaDoor
