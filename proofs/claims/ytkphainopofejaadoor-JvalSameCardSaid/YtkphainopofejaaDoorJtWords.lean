/- Contracts of package jtok's word and number: the token of a word, of a number, at any place of any text of at most a thousand bytes. -/
import Derived.Test.YtkphainopofejaaDoorJtSigns
import Derived.Test.YtkphainopofejaaDoorNuParses
namespace Go.Proofs.YtkphainopofejaaDoor.Jt
open Go.RowKit
set_option linter.unusedSimpArgs false
set_option linter.unusedVariables false

theorem ext_list (s : ByteArray) (a b : Nat) : (s.extract a b).toList = cutL s.data.toList a b := by rw [Lib.toList_data, extract_cut]
set_option maxRecDepth 100000 in
set_option maxHeartbeats 2000000 in
theorem word_9 (s : ByteArray) (p : Nat) (w : World) (hs : s.size ≤ 1000) (hp : p < s.size) (hc : cutL s.data.toList p (endP wordB s.data.toList p) = trueL) : Calls Tryd.prog 51 #[.string s, .int .i64 (p : Int)] w fun e w' => e = tupV (tokV 9 p (endP wordB s.data.toList p : Nat) emS 0) .nilIface ∧ Below w.heap.size w w' := by
  have HR := Lib.hid (fun W => rowword_c s p W hs (by omega))
  have h1 := endP_ge wordB s.data.toList p
  have h2 : endP wordB s.data.toList p ≤ s.size := by rw [size_l]; exact endP_le (by rw [← size_l]; omega)
  have e0 := ext_list s p (endP wordB s.data.toList p)
  rw [hc] at e0
  clear hc
  revert HR h1 h2 e0
  generalize endP wordB s.data.toList p = to
  intro HR h1 h2 e0
  have q9 : ((s.extract p to).toList == [116, 114, 117, 101]) = true := by rw [e0]; rfl
  clear e0
  have h1' : (p : Int) ≤ (to : Int) := by omega
  have h2' : (to : Int) ≤ (s.size : Int) := by omega
  go_enter Tryd.func51, Tryd.ntmps51
  go_wp2_with (go_at_call 58; refine (HR.out _).mono ?_; rintro e w' ⟨rfl, rfl⟩)
  refine bodyPost_ret (v := .tuple #[tokV 9 p (to : Int) emS 0, .nilIface]) (by simp [results, Tryd.results51, go_sem, tokV, emS]) rfl ⟨rfl, ?_⟩
  (repeat (first | exact Below.refl _ _ | refine Below.alloc ?_ (by first | (simp; done) | (simp; omega)) _ | refine Below.setCell ?_ (by first | (simp; done) | (simp; omega)) _))
set_option maxRecDepth 100000 in
set_option maxHeartbeats 2000000 in
theorem word_10 (s : ByteArray) (p : Nat) (w : World) (hs : s.size ≤ 1000) (hp : p < s.size) (hc : cutL s.data.toList p (endP wordB s.data.toList p) = falseL) : Calls Tryd.prog 51 #[.string s, .int .i64 (p : Int)] w fun e w' => e = tupV (tokV 10 p (endP wordB s.data.toList p : Nat) emS 0) .nilIface ∧ Below w.heap.size w w' := by
  have HR := Lib.hid (fun W => rowword_c s p W hs (by omega))
  have h1 := endP_ge wordB s.data.toList p
  have h2 : endP wordB s.data.toList p ≤ s.size := by rw [size_l]; exact endP_le (by rw [← size_l]; omega)
  have e0 := ext_list s p (endP wordB s.data.toList p)
  rw [hc] at e0
  clear hc
  revert HR h1 h2 e0
  generalize endP wordB s.data.toList p = to
  intro HR h1 h2 e0
  have q9 : ((s.extract p to).toList == [116, 114, 117, 101]) = false := by rw [e0]; rfl
  have q10 : ((s.extract p to).toList == [102, 97, 108, 115, 101]) = true := by rw [e0]; rfl
  clear e0
  have h1' : (p : Int) ≤ (to : Int) := by omega
  have h2' : (to : Int) ≤ (s.size : Int) := by omega
  go_enter Tryd.func51, Tryd.ntmps51
  go_wp2_with (go_at_call 58; refine (HR.out _).mono ?_; rintro e w' ⟨rfl, rfl⟩)
  refine bodyPost_ret (v := .tuple #[tokV 10 p (to : Int) emS 0, .nilIface]) (by simp [results, Tryd.results51, go_sem, tokV, emS]) rfl ⟨rfl, ?_⟩
  (repeat (first | exact Below.refl _ _ | refine Below.alloc ?_ (by first | (simp; done) | (simp; omega)) _ | refine Below.setCell ?_ (by first | (simp; done) | (simp; omega)) _))
set_option maxRecDepth 100000 in
set_option maxHeartbeats 2000000 in
theorem word_11 (s : ByteArray) (p : Nat) (w : World) (hs : s.size ≤ 1000) (hp : p < s.size) (hc : cutL s.data.toList p (endP wordB s.data.toList p) = nullL) : Calls Tryd.prog 51 #[.string s, .int .i64 (p : Int)] w fun e w' => e = tupV (tokV 11 p (endP wordB s.data.toList p : Nat) emS 0) .nilIface ∧ Below w.heap.size w w' := by
  have HR := Lib.hid (fun W => rowword_c s p W hs (by omega))
  have h1 := endP_ge wordB s.data.toList p
  have h2 : endP wordB s.data.toList p ≤ s.size := by rw [size_l]; exact endP_le (by rw [← size_l]; omega)
  have e0 := ext_list s p (endP wordB s.data.toList p)
  rw [hc] at e0
  clear hc
  revert HR h1 h2 e0
  generalize endP wordB s.data.toList p = to
  intro HR h1 h2 e0
  have q9 : ((s.extract p to).toList == [116, 114, 117, 101]) = false := by rw [e0]; rfl
  have q10 : ((s.extract p to).toList == [102, 97, 108, 115, 101]) = false := by rw [e0]; rfl
  have q11 : ((s.extract p to).toList == [110, 117, 108, 108]) = true := by rw [e0]; rfl
  clear e0
  have h1' : (p : Int) ≤ (to : Int) := by omega
  have h2' : (to : Int) ≤ (s.size : Int) := by omega
  go_enter Tryd.func51, Tryd.ntmps51
  go_wp2_with (go_at_call 58; refine (HR.out _).mono ?_; rintro e w' ⟨rfl, rfl⟩)
  refine bodyPost_ret (v := .tuple #[tokV 11 p (to : Int) emS 0, .nilIface]) (by simp [results, Tryd.results51, go_sem, tokV, emS]) rfl ⟨rfl, ?_⟩
  (repeat (first | exact Below.refl _ _ | refine Below.alloc ?_ (by first | (simp; done) | (simp; omega)) _ | refine Below.setCell ?_ (by first | (simp; done) | (simp; omega)) _))
set_option maxRecDepth 100000 in
set_option maxHeartbeats 2000000 in
theorem word_0 (s : ByteArray) (p : Nat) (w : World) (hs : s.size ≤ 1000) (hp : p < s.size) (hc : wrdK (cutL s.data.toList p (endP wordB s.data.toList p)) = 0) : Calls Tryd.prog 51 #[.string s, .int .i64 (p : Int)] w fun e w' => e = tupV (tokV 0 0 0 emS 0) (fltV p 3) ∧ Below w.heap.size w w' := by
  have HR := Lib.hid (fun W => rowword_c s p W hs (by omega))
  have h1 := endP_ge wordB s.data.toList p
  have h2 : endP wordB s.data.toList p ≤ s.size := by rw [size_l]; exact endP_le (by rw [← size_l]; omega)
  have e0 := ext_list s p (endP wordB s.data.toList p)
  unfold wrdK at hc
  rw [← e0] at hc
  clear e0
  revert HR h1 h2 hc
  generalize endP wordB s.data.toList p = to
  intro hc HR h1 h2
  have q9 : ((s.extract p to).toList == [116, 114, 117, 101]) = false := by
    rw [beq_eq_false_iff_ne]; intro e; rw [e] at hc; revert hc; decide
  have q10 : ((s.extract p to).toList == [102, 97, 108, 115, 101]) = false := by
    rw [beq_eq_false_iff_ne]; intro e; rw [e] at hc; revert hc; decide
  have q11 : ((s.extract p to).toList == [110, 117, 108, 108]) = false := by
    rw [beq_eq_false_iff_ne]; intro e; rw [e] at hc; revert hc; decide
  clear hc
  have h1' : (p : Int) ≤ (to : Int) := by omega
  have h2' : (to : Int) ≤ (s.size : Int) := by omega
  go_enter Tryd.func51, Tryd.ntmps51
  go_wp2_with (go_at_call 58; refine (HR.out _).mono ?_; rintro e w' ⟨rfl, rfl⟩)
  refine bodyPost_ret (v := .tuple #[tokV 0 0 0 emS 0, fltV p 3]) (by simp [results, Tryd.results51, go_sem, tokV, emS, fltV]) rfl ⟨rfl, ?_⟩
  (repeat (first | exact Below.refl _ _ | refine Below.alloc ?_ (by first | (simp; done) | (simp; omega)) _ | refine Below.setCell ?_ (by first | (simp; done) | (simp; omega)) _))
set_option maxRecDepth 100000 in
set_option maxHeartbeats 2000000 in
theorem number_ok (s : ByteArray) (p : Nat) (w : World) (hs : s.size ≤ 1000) (hp : p < s.size) (hc : Nu.pE (cutL s.data.toList p (endP numB s.data.toList p)) = 0) : Calls Tryd.prog 49 #[.string s, .int .i64 (p : Int)] w fun e w' => e = tupV (tokV 8 p (endP numB s.data.toList p : Nat) emS (Nu.pN (cutL s.data.toList p (endP numB s.data.toList p)))) .nilIface ∧ Below w.heap.size w w' := by
  have HR := Lib.hid (fun W => rownum_c s p W hs (by omega))
  have h1 := endP_ge numB s.data.toList p
  have h2 : endP numB s.data.toList p ≤ s.size := by rw [size_l]; exact endP_le (by rw [← size_l]; omega)
  have hz : (s.extract p (endP numB s.data.toList p)).size ≤ 1000 := by rw [ByteArray.size_extract]; omega
  have HP := Lib.hid (fun W => Nu.parse_c (s.extract p (endP numB s.data.toList p)) W hz)
  rw [extract_cut] at HP
  rw [hc] at HP
  clear hc hz
  revert HR h1 h2 HP
  generalize Nu.pN (cutL s.data.toList p (endP numB s.data.toList p)) = n
  generalize endP numB s.data.toList p = to
  intro HR h1 h2 HP
  have h1' : (p : Int) ≤ (to : Int) := by omega
  have h2' : (to : Int) ≤ (s.size : Int) := by omega
  go_enter Tryd.func49, Tryd.ntmps49
  go_wp2_with (first | (go_at_call 58; refine (HR.out _).mono ?_; rintro e w' ⟨rfl, rfl⟩) | (go_at_call 60; refine (HP.out _).mono ?_; rintro e w' ⟨rfl, rfl⟩))
  refine bodyPost_ret (v := .tuple #[tokV 8 p (to : Int) emS n, .nilIface]) (by simp [results, Tryd.results49, go_sem, tokV, emS]) rfl ⟨rfl, ?_⟩
  (repeat (first | exact Below.refl _ _ | refine Below.alloc ?_ (by first | (simp; done) | (simp; omega)) _ | refine Below.setCell ?_ (by first | (simp; done) | (simp; omega)) _))
set_option maxRecDepth 100000 in
set_option maxHeartbeats 2000000 in
theorem number_no (s : ByteArray) (p : Nat) (w : World) (hs : s.size ≤ 1000) (hp : p < s.size) (hc : Nu.pE (cutL s.data.toList p (endP numB s.data.toList p)) ≠ 0) : Calls Tryd.prog 49 #[.string s, .int .i64 (p : Int)] w fun e w' => e = tupV (tokV 0 0 0 emS 0) (fltV p (Nu.pE (cutL s.data.toList p (endP numB s.data.toList p)))) ∧ Below w.heap.size w w' := by
  have HR := Lib.hid (fun W => rownum_c s p W hs (by omega))
  have h1 := endP_ge numB s.data.toList p
  have h2 : endP numB s.data.toList p ≤ s.size := by rw [size_l]; exact endP_le (by rw [← size_l]; omega)
  have hz : (s.extract p (endP numB s.data.toList p)).size ≤ 1000 := by rw [ByteArray.size_extract]; omega
  have HP := Lib.hid (fun W => Nu.parse_c (s.extract p (endP numB s.data.toList p)) W hz)
  rw [extract_cut] at HP
  clear hz
  revert HR h1 h2 HP hc
  generalize Nu.pN (cutL s.data.toList p (endP numB s.data.toList p)) = n
  generalize Nu.pE (cutL s.data.toList p (endP numB s.data.toList p)) = e0
  generalize endP numB s.data.toList p = to
  intro hc HR h1 h2 HP
  have q : (e0 != 0) = true := by simpa using hc
  clear hc
  have h1' : (p : Int) ≤ (to : Int) := by omega
  have h2' : (to : Int) ≤ (s.size : Int) := by omega
  go_enter Tryd.func49, Tryd.ntmps49
  go_wp2_with (first | (go_at_call 58; refine (HR.out _).mono ?_; rintro e w' ⟨rfl, rfl⟩) | (go_at_call 60; refine (HP.out _).mono ?_; rintro e w' ⟨rfl, rfl⟩))
  refine bodyPost_ret (v := .tuple #[tokV 0 0 0 emS 0, fltV p e0]) (by simp [results, Tryd.results49, go_sem, tokV, emS, fltV]) rfl ⟨rfl, ?_⟩
  (repeat (first | exact Below.refl _ _ | refine Below.alloc ?_ (by first | (simp; done) | (simp; omega)) _ | refine Below.setCell ?_ (by first | (simp; done) | (simp; omega)) _))
end Go.Proofs.YtkphainopofejaaDoor.Jt
