/-
  HeadLine (P10.1): for every text (its first five hundred bytes) and every length, package head's Line and OfField answer what the document's own Line and OfField answer, and chapter 10's example comes out. Condition: the listed variables of the library lie as the program's text lays them (tied card).
-/
import Derived.Test.YtmeheibochmcfaaDoorCards
import Derived.Test.YtmeheibochmcfaaDoorTie
import Derived.Test.YtmeheibochmcfaaDoorHdAwake
import Derived.ShutString
import Derived.ChangeOld
import Derived.SevenTiedAt
import Derived.Lib.SmallJoins
import Derived.Deep.DeepHandedRow
import Derived.Lay
import Derived.LaidHandle
import Derived.ProofKit
import Derived.OpenShut
import Derived.LaidMore
import Derived.Lib.LaidTab
import Derived.Stop.Joined
namespace Go.Proofs.YtmeheibochmcfaaDoor.headLine
open Go.ChangeShapes Go.WideShapes Go.ChangeAt Go.RowKit
open Go.ChangeMaps (open_string shut_string)
open Go.Proofs.YtmeheibochmcfaaDoor.Ch
open Go.Proofs.YtmeheibochmcfaaDoor.Hd
set_option linter.unusedVariables false
set_option linter.unusedSimpArgs false

theorem own : ownKnob Tryd.prog.godebug = none := by kernel_rfl
theorem laidOut : laidOutB Tryd.prog = true := by kernel_rfl

theorem new2 (w : World) (a b : Value) (T : TypeId) : (w.alloc (.cells #[a, b] T)).cell? ⟨w.heap.size, 0, none⟩ = some a ∧ (w.alloc (.cells #[a, b] T)).cell? ⟨w.heap.size, 1, none⟩ = some b := by
  have hk := heap_alloc_new w (.cells #[a, b] T)
  exact ⟨cell_of_row _ _ 0 _ _ _ hk, cell_of_row _ _ 1 _ _ _ hk⟩
def shortL (l : List UInt8) : List UInt8 := l.take 500
theorem short_sz (a : ByteArray) : (mkS (shortL a.data.toList)).size ≤ 500 := by rw [size_mkS]; unfold shortL; rw [List.length_take]; omega
theorem short_c (s : ByteArray) (w : World) (hs : s.size ≤ maxLen) : Calls Tryd.prog 5 #[.string s] w fun e w' => e = .returned (.string (mkS (shortL s.data.toList))) ∧ w = w' := by
  unfold maxLen at hs
  by_cases h : 500 < s.size
  · have h' : (500 : Int) < (s.size : Int) := by omega
    go_enter Tryd.func5, Tryd.ntmps5
    go_wp2
    go_ret
    exact ⟨Hd.ret_str (mkS_of (by rw [Lib.extract_data]; simp [shortL])), rfl⟩
  · have h' : (s.size : Int) ≤ 500 := by omega
    have H := Lib.hid h
    go_enter Tryd.func5, Tryd.ntmps5
    go_wp2
    go_ret
    exact ⟨Hd.ret_str (mkS_of (by have := H.out; rw [Lib.size_eq] at this; unfold shortL; rw [List.take_of_length_le (by omega)])), rfl⟩
set_option maxRecDepth 100000 in
set_option maxHeartbeats 2000000 in
theorem walkA (most : Int) (a0 s t fa fb : ByteArray) (k : Int) (is : Bool) (w : World) (hs : Tryd.prog.stoodInHeld 44 = false) (HM : Hid (Mx w))
    (hsh : Hid (∀ W, Calls Tryd.prog 5 #[.string a0] W fun e w' => e = .returned (.string s) ∧ W = w'))
    (HL : Hid (∀ W, Mx W → Calls Tryd.prog 11 #[.string s, .int .i64 most] W fun e w' => e = .returned (.tuple #[.string ⟨#[]⟩, .int .i64 0, .bool true]) ∧ Below W.heap.size W w'))
    (HR : Hid (∀ W, Calls Tryd.prog 12 #[.string s, .int .i64 most] W fun e w' => e = .returned (.tuple #[.string ⟨#[]⟩, .int .i64 1]) ∧ W = w'))
    (HF : Hid (∀ W, Calls Tryd.prog 13 #[.string s] W fun e w' => e = .returned (.tuple #[.agg #[.string fa, .string fb], .bool is]) ∧ Below W.heap.size W w'))
    (HG : Hid (∀ W, Calls Tryd.prog 14 #[.string s] W fun e w' => e = .returned (.tuple #[.agg #[.string fa, .string fb], .bool is]) ∧ Below W.heap.size W w'))  :
    Calls Tryd.prog 4 #[.string a0, .int .i64 most] w fun e w' => e = .returned (.bool true) ∧ Below w.heap.size w w' := by
  cases is
  all_goals
    go_enter Tryd.func4, Tryd.ntmps4
    go_wp2_with fail
    refine (hsh.out _).mono ?_
    rintro e w' ⟨rfl, rfl⟩
    go_wp2_with fail
    refine (HL.out _ HM.out).mono ?_
    rintro e w1 ⟨rfl, hb1⟩
    have HB1 := Lib.hid hb1
    have HM1 := Lib.hid (HM.out.go hb1)
    clear hb1
    go_wp2_with fail
    refine (HR.out _).mono ?_
    rintro e wz ⟨rfl, hw⟩
    rw [← hw]; clear hw
    go_wp2_with fail
    refine (HF.out _).mono ?_
    rintro e w2 ⟨rfl, hb2⟩
    have HB2 : Hid (Below w.heap.size w w2) := HB1.out.trans (hb2.mono HB1.out.size)
    have HM2 := Lib.hid (HM1.out.go hb2)
    clear hb2
    obtain ⟨c0, c1⟩ := new2 w2 (.string fa) (.string fb) 44
    have HB2a : Hid (Below w.heap.size w (w2.alloc (.cells #[.string fa, .string fb] 44))) := HB2.out.alloc HB2.out.size _
    have HM2a : Hid (Mx (w2.alloc (.cells #[.string fa, .string fb] 44))) := HM2.out.go ((Below.refl _ _).alloc (Nat.le_refl _) _)
    go_wp2_with fail
    refine (HG.out _).mono ?_
    rintro e w3 ⟨rfl, hb3⟩
    have d0 := (hb3.cell (p := ⟨w2.heap.size, 0, none⟩) (by rw [World.size_alloc]; exact Nat.lt_succ_self _)).trans c0
    have d1 := (hb3.cell (p := ⟨w2.heap.size, 1, none⟩) (by rw [World.size_alloc]; exact Nat.lt_succ_self _)).trans c1
    have hl3 : w2.heap.size < w3.heap.size := by have := hb3.size; rw [World.size_alloc] at this; omega
    have hn3 : w2.heap.size ≠ w3.heap.size := by omega
    have HB3 : Hid (Below w.heap.size w w3) := HB2a.out.trans (hb3.mono HB2a.out.size)
    have HM3 := Lib.hid (HM2a.out.go hb3)
    clear hb3 c0 c1
    have HB4 : Hid (Below w.heap.size w (w3.alloc (.cells #[.string fa, .string fb] 47))) := HB3.out.alloc HB3.out.size _
    have HM4 : Hid (Mx (w3.alloc (.cells #[.string fa, .string fb] 47))) := HM3.out.go ((Below.refl _ _).alloc (Nat.le_refl _) _)
    go_wp2_with fail
    refine (awake_c _ HM4.out).mono ?_
    rintro e w9 ⟨rfl, hb9⟩
    have HB9 := Lib.hid hb9
    clear hb9
    go_wp2
    go_ret
    exact ⟨rfl, HB4.out.trans (HB9.out.mono HB4.out.size)⟩
set_option maxRecDepth 100000 in
set_option maxHeartbeats 2000000 in
theorem walkB (most : Int) (a0 s t fa fb : ByteArray) (k : Int) (is : Bool) (w : World) (hs : Tryd.prog.stoodInHeld 44 = false) (HM : Hid (Mx w))
    (hsh : Hid (∀ W, Calls Tryd.prog 5 #[.string a0] W fun e w' => e = .returned (.string s) ∧ W = w'))
    (HL : Hid (∀ W, Mx W → Calls Tryd.prog 11 #[.string s, .int .i64 most] W fun e w' => e = .returned (.tuple #[.string ⟨#[]⟩, .int .i64 0, .bool false]) ∧ Below W.heap.size W w'))
    (HR : Hid (∀ W, Calls Tryd.prog 12 #[.string s, .int .i64 most] W fun e w' => e = .returned (.tuple #[.string ⟨#[]⟩, .int .i64 2]) ∧ W = w'))
    (HF : Hid (∀ W, Calls Tryd.prog 13 #[.string s] W fun e w' => e = .returned (.tuple #[.agg #[.string fa, .string fb], .bool is]) ∧ Below W.heap.size W w'))
    (HG : Hid (∀ W, Calls Tryd.prog 14 #[.string s] W fun e w' => e = .returned (.tuple #[.agg #[.string fa, .string fb], .bool is]) ∧ Below W.heap.size W w'))  :
    Calls Tryd.prog 4 #[.string a0, .int .i64 most] w fun e w' => e = .returned (.bool true) ∧ Below w.heap.size w w' := by
  cases is
  all_goals
    go_enter Tryd.func4, Tryd.ntmps4
    go_wp2_with fail
    refine (hsh.out _).mono ?_
    rintro e w' ⟨rfl, rfl⟩
    go_wp2_with fail
    refine (HL.out _ HM.out).mono ?_
    rintro e w1 ⟨rfl, hb1⟩
    have HB1 := Lib.hid hb1
    have HM1 := Lib.hid (HM.out.go hb1)
    clear hb1
    go_wp2_with fail
    refine (HR.out _).mono ?_
    rintro e wz ⟨rfl, hw⟩
    rw [← hw]; clear hw
    go_wp2_with fail
    refine (HF.out _).mono ?_
    rintro e w2 ⟨rfl, hb2⟩
    have HB2 : Hid (Below w.heap.size w w2) := HB1.out.trans (hb2.mono HB1.out.size)
    have HM2 := Lib.hid (HM1.out.go hb2)
    clear hb2
    obtain ⟨c0, c1⟩ := new2 w2 (.string fa) (.string fb) 44
    have HB2a : Hid (Below w.heap.size w (w2.alloc (.cells #[.string fa, .string fb] 44))) := HB2.out.alloc HB2.out.size _
    have HM2a : Hid (Mx (w2.alloc (.cells #[.string fa, .string fb] 44))) := HM2.out.go ((Below.refl _ _).alloc (Nat.le_refl _) _)
    go_wp2_with fail
    refine (HG.out _).mono ?_
    rintro e w3 ⟨rfl, hb3⟩
    have d0 := (hb3.cell (p := ⟨w2.heap.size, 0, none⟩) (by rw [World.size_alloc]; exact Nat.lt_succ_self _)).trans c0
    have d1 := (hb3.cell (p := ⟨w2.heap.size, 1, none⟩) (by rw [World.size_alloc]; exact Nat.lt_succ_self _)).trans c1
    have hl3 : w2.heap.size < w3.heap.size := by have := hb3.size; rw [World.size_alloc] at this; omega
    have hn3 : w2.heap.size ≠ w3.heap.size := by omega
    have HB3 : Hid (Below w.heap.size w w3) := HB2a.out.trans (hb3.mono HB2a.out.size)
    have HM3 := Lib.hid (HM2a.out.go hb3)
    clear hb3 c0 c1
    have HB4 : Hid (Below w.heap.size w (w3.alloc (.cells #[.string fa, .string fb] 47))) := HB3.out.alloc HB3.out.size _
    have HM4 : Hid (Mx (w3.alloc (.cells #[.string fa, .string fb] 47))) := HM3.out.go ((Below.refl _ _).alloc (Nat.le_refl _) _)
    go_wp2_with fail
    refine (awake_c _ HM4.out).mono ?_
    rintro e w9 ⟨rfl, hb9⟩
    have HB9 := Lib.hid hb9
    clear hb9
    go_wp2
    go_ret
    exact ⟨rfl, HB4.out.trans (HB9.out.mono HB4.out.size)⟩
set_option maxRecDepth 100000 in
set_option maxHeartbeats 2000000 in
theorem walkC (most : Int) (a0 s t fa fb : ByteArray) (k : Int) (is : Bool) (w : World) (hs : Tryd.prog.stoodInHeld 44 = false) (HM : Hid (Mx w))
    (hsh : Hid (∀ W, Calls Tryd.prog 5 #[.string a0] W fun e w' => e = .returned (.string s) ∧ W = w'))
    (HL : Hid (∀ W, Mx W → Calls Tryd.prog 11 #[.string s, .int .i64 most] W fun e w' => e = .returned (.tuple #[.string t, .int .i64 (k + 2), .bool true]) ∧ Below W.heap.size W w'))
    (HR : Hid (∀ W, Calls Tryd.prog 12 #[.string s, .int .i64 most] W fun e w' => e = .returned (.tuple #[.string t, .int .i64 0]) ∧ W = w'))
    (HF : Hid (∀ W, Calls Tryd.prog 13 #[.string s] W fun e w' => e = .returned (.tuple #[.agg #[.string fa, .string fb], .bool is]) ∧ Below W.heap.size W w'))
    (HG : Hid (∀ W, Calls Tryd.prog 14 #[.string s] W fun e w' => e = .returned (.tuple #[.agg #[.string fa, .string fb], .bool is]) ∧ Below W.heap.size W w')) (hk : k = (t.size : Int)) (hk2 : t.size ≤ 500) :
    Calls Tryd.prog 4 #[.string a0, .int .i64 most] w fun e w' => e = .returned (.bool true) ∧ Below w.heap.size w w' := by
  subst hk
  cases is
  all_goals
    go_enter Tryd.func4, Tryd.ntmps4
    go_wp2_with fail
    refine (hsh.out _).mono ?_
    rintro e w' ⟨rfl, rfl⟩
    go_wp2_with fail
    refine (HL.out _ HM.out).mono ?_
    rintro e w1 ⟨rfl, hb1⟩
    have HB1 := Lib.hid hb1
    have HM1 := Lib.hid (HM.out.go hb1)
    clear hb1
    go_wp2_with fail
    refine (HR.out _).mono ?_
    rintro e wz ⟨rfl, hw⟩
    rw [← hw]; clear hw
    go_wp2_with fail
    refine (HF.out _).mono ?_
    rintro e w2 ⟨rfl, hb2⟩
    have HB2 : Hid (Below w.heap.size w w2) := HB1.out.trans (hb2.mono HB1.out.size)
    have HM2 := Lib.hid (HM1.out.go hb2)
    clear hb2
    obtain ⟨c0, c1⟩ := new2 w2 (.string fa) (.string fb) 44
    have HB2a : Hid (Below w.heap.size w (w2.alloc (.cells #[.string fa, .string fb] 44))) := HB2.out.alloc HB2.out.size _
    have HM2a : Hid (Mx (w2.alloc (.cells #[.string fa, .string fb] 44))) := HM2.out.go ((Below.refl _ _).alloc (Nat.le_refl _) _)
    go_wp2_with fail
    refine (HG.out _).mono ?_
    rintro e w3 ⟨rfl, hb3⟩
    have d0 := (hb3.cell (p := ⟨w2.heap.size, 0, none⟩) (by rw [World.size_alloc]; exact Nat.lt_succ_self _)).trans c0
    have d1 := (hb3.cell (p := ⟨w2.heap.size, 1, none⟩) (by rw [World.size_alloc]; exact Nat.lt_succ_self _)).trans c1
    have hl3 : w2.heap.size < w3.heap.size := by have := hb3.size; rw [World.size_alloc] at this; omega
    have hn3 : w2.heap.size ≠ w3.heap.size := by omega
    have HB3 : Hid (Below w.heap.size w w3) := HB2a.out.trans (hb3.mono HB2a.out.size)
    have HM3 := Lib.hid (HM2a.out.go hb3)
    clear hb3 c0 c1
    have HB4 : Hid (Below w.heap.size w (w3.alloc (.cells #[.string fa, .string fb] 47))) := HB3.out.alloc HB3.out.size _
    have HM4 : Hid (Mx (w3.alloc (.cells #[.string fa, .string fb] 47))) := HM3.out.go ((Below.refl _ _).alloc (Nat.le_refl _) _)
    go_wp2_with fail
    refine (awake_c _ HM4.out).mono ?_
    rintro e w9 ⟨rfl, hb9⟩
    have HB9 := Lib.hid hb9
    clear hb9
    go_wp2
    go_ret
    exact ⟨rfl, HB4.out.trans (HB9.out.mono HB4.out.size)⟩
theorem fin (q : Option (List UInt8 × List UInt8)) : ∃ fa fb is, ofV q = .returned (.tuple #[.agg #[.string fa, .string fb], .bool is]) := by
  cases q with
  | none => exact ⟨_, _, _, rfl⟩
  | some x => exact ⟨_, _, _, rfl⟩
theorem walk (a0 : ByteArray) (w0 : a0.size ≤ maxLen) (most : Int) (wm : (Lit.int .i64 most).wf = true) (w : World) (hT : Mx w) :
    Calls Tryd.prog 4 #[.string a0, .int .i64 most] w fun e w' => e = .returned (.bool true) ∧ Below w.heap.size w w' := by
  obtain ⟨hm0, hm1⟩ := bounds_i64 wm
  have hsh := Lib.hid (fun W => short_c a0 W w0)
  have hsz := short_sz a0
  revert hsh hsz
  generalize mkS (shortL a0.data.toList) = s
  intro hsh hsz
  have HL := Lib.hid (fun W h => Line_c s most W (by omega) h)
  have HR := Lib.hid (fun W => LineR_c s most W (by omega) hm0 hm1)
  have HF := Lib.hid (fun W => OfField_c s W (by omega))
  have HG := Lib.hid (fun W => OfFieldR_c s W (by omega))
  obtain ⟨fa, fb, is, hq⟩ := fin (ofL s.data.toList)
  rw [hq] at HF HG
  cases he : endL s.data.toList with
  | none =>
    rw [he] at HL HR
    unfold lnV at HL
    unfold lrV at HR
    simp only at HL HR
    by_cases h : most < (s.data.toList.length : Int) - 1
    · rw [if_pos h] at HR
      rw [decide_eq_false (by omega)] at HL
      exact walkB most a0 s s fa fb 0 is w stood hT hsh HL HR HF HG
    · rw [if_neg h] at HR
      rw [decide_eq_true (by omega)] at HL
      exact walkA most a0 s s fa fb 0 is w stood hT hsh HL HR HF HG
  | some k =>
    have hk := (cut_some he).2
    rw [he] at HL HR
    unfold lnV at HL
    unfold lrV at HR
    simp only at HL HR
    by_cases h : most < (k : Int)
    · rw [if_pos h] at HL HR
      exact walkB most a0 s s fa fb 0 is w stood hT hsh HL HR HF HG
    · rw [if_neg h] at HL HR
      have hz : (mkS (s.data.toList.take k)).size = k := by rw [size_mkS, List.length_take]; omega
      rw [← Lib.size_eq] at hk
      exact walkC most a0 s _ fa fb (k : Int) is w stood hT hsh HL HR HF HG (by rw [hz]) (by rw [hz]; omega)

/-- a world that meets the condition on the listed variables -/
noncomputable def wit (os : Os) : World := (World.doorLaid Tryd.prog 400 os).layVars Tryd.prog [("unicode/utf8.acceptRanges", Rows.laid_unicode_utf8_acceptRanges), ("unicode/utf8.first", Rows.laid_unicode_utf8_first)]
theorem door_met (os : Os) (args : Array Value) : laidMetH Tryd.prog [("unicode/utf8.acceptRanges", Rows.laid_unicode_utf8_acceptRanges), ("errors.errorType", Rows.laid_errors_errorType), ("unicode/utf8.first", Rows.laid_unicode_utf8_first)] ((wit os).forCall (fun _ _ => 0) ⟨#[], args, []⟩).memory :=
  laidMetH_of_parts3 (fuel := 8) (laidMet_layVars (w0 := World.doorLaid Tryd.prog 400 os) ["unicode/utf8.acceptRanges", "unicode/utf8.first"] [] (by simp [World.memory, World.forCall, Input.heap]; rfl) (by kernel_rfl) (by kernel_rfl) LaidIn.none) (by kernel_rfl) (by kernel_rfl)
theorem mx_of {W : World} (h : W.ShapedOpen Tryd.prog) : Mx W := Tryd.laysM145.s1_3 W h
set_option maxRecDepth 100000 in
theorem lifted (os : Os) (started : os.Started) (H : Type) (enc : TypeId × Value → H) :
    ReturnsInHanded {} Tryd.checked os 4 .any (fun w args => (Rows.headLineSpec.pre enc Tryd.prog Tryd.f4 [] false w args ∧ laidMetH Tryd.prog [("unicode/utf8.acceptRanges", Rows.laid_unicode_utf8_acceptRanges), ("errors.errorType", Rows.laid_errors_errorType), ("unicode/utf8.first", Rows.laid_unicode_utf8_first)] w) ∧ sizedMet enc Tryd.prog Tryd.f4 (OpenSpec.ofChange Rows.headLineSpec) false w args)
      (Rows.headLineSpec.post enc Tryd.prog Tryd.f4 false true false false) := by
  refine returnsInHanded_of_row (C := Tryd.checked) (s := OpenSpec.ofChange Rows.headLineSpec) (F := fun _ _ _ => 0) (laid := [("unicode/utf8.acceptRanges", Rows.laid_unicode_utf8_acceptRanges), ("errors.errorType", Rows.laid_errors_errorType), ("unicode/utf8.first", Rows.laid_unicode_utf8_first)]) own started (by kernel_rfl) Tryd.func4
    (ChangeSpec.witness_shaped (enc := enc) (C := Tryd.checked) (os := os) (X := fun w _ => laidMetH Tryd.prog [("unicode/utf8.acceptRanges", Rows.laid_unicode_utf8_acceptRanges), ("errors.errorType", Rows.laid_errors_errorType), ("unicode/utf8.first", Rows.laid_unicode_utf8_first)] w) false (wit os) #[.string ByteArray.empty, .int .i64 0] 8 ((World.layVars_os _ _ _).trans rfl) (World.shaped_of_ZipB (by kernel_rfl) (by kernel_rfl)) (by kernel_rfl) (by kernel_rfl) (by kernel_rfl) (door_met os _)) ?_
  intro W base args ds gs before hval0 hW _ _ _ hL hSh _
  have hval : ∀ (j : Nat) t v, Tryd.f4.params[j]? = some t → args[j]? = some v → Value.okWide Tryd.prog W .any base t v := hval0
  have hW' := hW
  obtain ⟨p, q, hA0, hV, rfl, hfz, hnd⟩ := hW
  have hA : DataW.TrodAll enc Tryd.prog W 0 (fun _ => true) true Tryd.f4.params.toList args.toList ds p := hA0
  rw [Tryd.params4] at hA hval
  obtain ⟨v0, vs0, d0, ds0, p0, q0, hargs, rfl, rfl, h0, r0⟩ := trodAll_cons hA
  obtain ⟨v1, vs1, d1, ds1, p1, q1, rfl, rfl, rfl, h1, r1⟩ := trodAll_cons r0
  obtain ⟨rfl, rfl, rfl⟩ := trodAll_nil r1
  obtain rfl : args = #[v0, v1] := by cases args; simp_all
  obtain ⟨rfl, rfl⟩ := trodVars_none hV
  obtain ⟨a0, rfl, rfl, rfl, w0⟩ := open_string Tryd.underlying9 (hval 0 9 v0 rfl rfl) h0
  obtain ⟨a1, rfl, rfl, rfl, w1⟩ := open_int Tryd.underlying3 (hval 1 3 v1 rfl rfl) h1
  clear hA0 hval0
  have hT := mx_of hSh
  refine (walk a0 w0 a1 w1 W hT).mono fun e W' ⟨he, bel⟩ => ?_
  subst he
  exact ⟨_, rfl, _, _, _, [], _, [], hW', trodAll_mk1 (shut_bool Tryd.underlying4 _), (trodAll_cons_mk (shut_string Tryd.underlying9 w0) (trodAll_cons_mk (shut_int Tryd.underlying3 w1) trodAll_mk0)), rfl, bel.frame _, fun h => by cases h⟩

theorem over : Rows.HeadLineSaid :=
  OpenClaim.holds_of_wide 4 Tryd.f4 rfl rfl rfl rfl rfl rfl rfl ⟨rfl, rfl, rfl, rfl, rfl⟩ rfl rfl rfl rfl rfl (by kernel_rfl) Tryd.func4 (by kernel_rfl)
    (of_decide_eq_true (by kernel_rfl)) (by unfold Func.isWrapper; first | (rw [if_pos (by decide +kernel)]; kernel_rfl) | (rw [if_neg (by decide +kernel)]; exact ⟨rfl, rfl⟩))
    (fun os started H enc _ => lifted os started H enc)
end Go.Proofs.YtmeheibochmcfaaDoor.headLine
namespace Go.Proofs.YtmeheibochmcfaaDoor
theorem headLine_card : Rows.HeadLineCardSaid :=
  Claim7.holds_tied_plain_at .later [] [.data, .handle, .pinned] true (true, "a249abf9d16dfb39f53b340467c8e4400dc72ebb16a400fb25b8ae7cc964ce69") true
    headLine.over (fun _ h => by cases h) (by kernel_rfl) (fun _ h => by cases h) headLine_row_tie rfl ⟨rfl, rfl⟩ (by kernel_rfl) rfl
    (fun f fn hf hfn => by
      obtain rfl : f = 4 := Option.some.inj ((show Tryd.prog.funcNamed Tryd.f4.name = some 4 by kernel_rfl).symm.trans hf) |>.symm
      obtain rfl : fn = Tryd.f4 := (Option.some.inj (Tryd.func4.symm.trans hfn)).symm
      exact ⟨by kernel_rfl, fun j t ht => by
        rw [Tryd.params4] at ht
        have hm : t ∈ [9, 3] := by simpa using Array.mem_of_getElem? ht
        have hall : ([9, 3].all fun u => !Tryd.prog.wantsStandIn u) = true := by kernel_rfl
        exact (show Tryd.prog.wantsStandIn t = false by simpa using List.all_eq_true.1 hall t hm)⟩)
    (by kernel_rfl)
#print axioms headLine_card
end Go.Proofs.YtmeheibochmcfaaDoor
