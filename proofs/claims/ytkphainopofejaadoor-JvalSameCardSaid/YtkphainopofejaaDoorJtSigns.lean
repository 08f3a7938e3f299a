/- Contracts of package jtok's sign, word and number: the token of one byte, of a word, of a number, at any place of any text of at most a thousand bytes. -/
import Derived.Test.YtkphainopofejaaDoorJtToks
import Derived.Test.YtkphainopofejaaDoorJtEnds
namespace Go.Proofs.YtkphainopofejaaDoor.Jt
open Go.RowKit
set_option linter.unusedSimpArgs false
set_option linter.unusedVariables false

/-- a token as the program has it; what is amiss -/
def tokV (k a b : Int) (t : ByteArray) (n : Int) : Value := .agg #[.int .i64 k, .int .i64 a, .int .i64 b, .string t, .int .i64 n]
def emS : ByteArray := ⟨#[]⟩
def fltV (a e : Int) : Value := .iface 106 (.agg #[.int .i64 a, .int .i64 e])
def tupV (x y : Value) : Ending := .returned (.tuple #[x, y])
theorem byte_q (s : ByteArray) (k : Nat) (h : k < s.size) (z : Int) : ((s[k].toNat : Int) == z) = decide (at0 s.data.toList k = z) := by
  have h' : k < s.data.toList.length := by rw [← size_l]; exact h
  rw [at0_get h', data_at h h']
  rw [Bool.eq_iff_iff, beq_iff_eq, decide_eq_true_eq]; rfl
theorem byte_i (s : ByteArray) (k : Nat) (h : k < s.size) : (s[k].toNat : Int) = at0 s.data.toList k := by
  have h' : k < s.data.toList.length := by rw [← size_l]; exact h
  rw [at0_get h', data_at h h']
  rfl
set_option maxRecDepth 100000 in
set_option maxHeartbeats 2000000 in
theorem sign_1 (s : ByteArray) (p : Nat) (w : World) (hs : s.size ≤ 1000) (hp : p < s.size) (hc : at0 s.data.toList p = 123) : Calls Tryd.prog 52 #[.string s, .int .i64 (p : Int)] w fun e w' => e = tupV (tokV 1 p ((p : Int) + 1) emS 0) .nilIface ∧ Below w.heap.size w w' := by
  have q123 : ((s[p].toNat : Int) == 123) = true := by rw [byte_q s p hp, hc]; rfl
  clear hc
  go_enter Tryd.func52, Tryd.ntmps52
  go_wp2
  refine bodyPost_ret (v := .tuple #[tokV 1 p ((p : Int) + 1) emS 0, .nilIface]) (by simp [results, Tryd.results52, go_sem, tokV, emS]) rfl ⟨rfl, ?_⟩
  (repeat (first | exact Below.refl _ _ | refine Below.alloc ?_ (by first | (simp; done) | (simp; omega)) _ | refine Below.setCell ?_ (by first | (simp; done) | (simp; omega)) _))
set_option maxRecDepth 100000 in
set_option maxHeartbeats 2000000 in
theorem sign_2 (s : ByteArray) (p : Nat) (w : World) (hs : s.size ≤ 1000) (hp : p < s.size) (hc : at0 s.data.toList p = 125) : Calls Tryd.prog 52 #[.string s, .int .i64 (p : Int)] w fun e w' => e = tupV (tokV 2 p ((p : Int) + 1) emS 0) .nilIface ∧ Below w.heap.size w w' := by
  have q123 : ((s[p].toNat : Int) == 123) = false := by rw [byte_q s p hp, hc]; rfl
  have q125 : ((s[p].toNat : Int) == 125) = true := by rw [byte_q s p hp, hc]; rfl
  clear hc
  go_enter Tryd.func52, Tryd.ntmps52
  go_wp2
  refine bodyPost_ret (v := .tuple #[tokV 2 p ((p : Int) + 1) emS 0, .nilIface]) (by simp [results, Tryd.results52, go_sem, tokV, emS]) rfl ⟨rfl, ?_⟩
  (repeat (first | exact Below.refl _ _ | refine Below.alloc ?_ (by first | (simp; done) | (simp; omega)) _ | refine Below.setCell ?_ (by first | (simp; done) | (simp; omega)) _))
set_option maxRecDepth 100000 in
set_option maxHeartbeats 2000000 in
theorem sign_3 (s : ByteArray) (p : Nat) (w : World) (hs : s.size ≤ 1000) (hp : p < s.size) (hc : at0 s.data.toList p = 91) : Calls Tryd.prog 52 #[.string s, .int .i64 (p : Int)] w fun e w' => e = tupV (tokV 3 p ((p : Int) + 1) emS 0) .nilIface ∧ Below w.heap.size w w' := by
  have q123 : ((s[p].toNat : Int) == 123) = false := by rw [byte_q s p hp, hc]; rfl
  have q125 : ((s[p].toNat : Int) == 125) = false := by rw [byte_q s p hp, hc]; rfl
  have q91 : ((s[p].toNat : Int) == 91) = true := by rw [byte_q s p hp, hc]; rfl
  clear hc
  go_enter Tryd.func52, Tryd.ntmps52
  go_wp2
  refine bodyPost_ret (v := .tuple #[tokV 3 p ((p : Int) + 1) emS 0, .nilIface]) (by simp [results, Tryd.results52, go_sem, tokV, emS]) rfl ⟨rfl, ?_⟩
  (repeat (first | exact Below.refl _ _ | refine Below.alloc ?_ (by first | (simp; done) | (simp; omega)) _ | refine Below.setCell ?_ (by first | (simp; done) | (simp; omega)) _))
set_option maxRecDepth 100000 in
set_option maxHeartbeats 2000000 in
theorem sign_4 (s : ByteArray) (p : Nat) (w : World) (hs : s.size ≤ 1000) (hp : p < s.size) (hc : at0 s.data.toList p = 93) : Calls Tryd.prog 52 #[.string s, .int .i64 (p : Int)] w fun e w' => e = tupV (tokV 4 p ((p : Int) + 1) emS 0) .nilIface ∧ Below w.heap.size w w' := by
  have q123 : ((s[p].toNat : Int) == 123) = false := by rw [byte_q s p hp, hc]; rfl
  have q125 : ((s[p].toNat : Int) == 125) = false := by rw [byte_q s p hp, hc]; rfl
  have q91 : ((s[p].toNat : Int) == 91) = false := by rw [byte_q s p hp, hc]; rfl
  have q93 : ((s[p].toNat : Int) == 93) = true := by rw [byte_q s p hp, hc]; rfl
  clear hc
  go_enter Tryd.func52, Tryd.ntmps52
  go_wp2
  refine bodyPost_ret (v := .tuple #[tokV 4 p ((p : Int) + 1) emS 0, .nilIface]) (by simp [results, Tryd.results52, go_sem, tokV, emS]) rfl ⟨rfl, ?_⟩
  (repeat (first | exact Below.refl _ _ | refine Below.alloc ?_ (by first | (simp; done) | (simp; omega)) _ | refine Below.setCell ?_ (by first | (simp; done) | (simp; omega)) _))
set_option maxRecDepth 100000 in
set_option maxHeartbeats 2000000 in
theorem sign_5 (s : ByteArray) (p : Nat) (w : World) (hs : s.size ≤ 1000) (hp : p < s.size) (hc : at0 s.data.toList p = 58) : Calls Tryd.prog 52 #[.string s, .int .i64 (p : Int)] w fun e w' => e = tupV (tokV 5 p ((p : Int) + 1) emS 0) .nilIface ∧ Below w.heap.size w w' := by
  have q123 : ((s[p].toNat : Int) == 123) = false := by rw [byte_q s p hp, hc]; rfl
  have q125 : ((s[p].toNat : Int) == 125) = false := by rw [byte_q s p hp, hc]; rfl
  have q91 : ((s[p].toNat : Int) == 91) = false := by rw [byte_q s p hp, hc]; rfl
  have q93 : ((s[p].toNat : Int) == 93) = false := by rw [byte_q s p hp, hc]; rfl
  have q58 : ((s[p].toNat : Int) == 58) = true := by rw [byte_q s p hp, hc]; rfl
  clear hc
  go_enter Tryd.func52, Tryd.ntmps52
  go_wp2
  refine bodyPost_ret (v := .tuple #[tokV 5 p ((p : Int) + 1) emS 0, .nilIface]) (by simp [results, Tryd.results52, go_sem, tokV, emS]) rfl ⟨rfl, ?_⟩
  (repeat (first | exact Below.refl _ _ | refine Below.alloc ?_ (by first | (simp; done) | (simp; omega)) _ | refine Below.setCell ?_ (by first | (simp; done) | (simp; omega)) _))
set_option maxRecDepth 100000 in
set_option maxHeartbeats 2000000 in
theorem sign_6 (s : ByteArray) (p : Nat) (w : World) (hs : s.size ≤ 1000) (hp : p < s.size) (hc : at0 s.data.toList p = 44) : Calls Tryd.prog 52 #[.string s, .int .i64 (p : Int)] w fun e w' => e = tupV (tokV 6 p ((p : Int) + 1) emS 0) .nilIface ∧ Below w.heap.size w w' := by
  have q123 : ((s[p].toNat : Int) == 123) = false := by rw [byte_q s p hp, hc]; rfl
  have q125 : ((s[p].toNat : Int) == 125) = false := by rw [byte_q s p hp, hc]; rfl
  have q91 : ((s[p].toNat : Int) == 91) = false := by rw [byte_q s p hp, hc]; rfl
  have q93 : ((s[p].toNat : Int) == 93) = false := by rw [byte_q s p hp, hc]; rfl
  have q58 : ((s[p].toNat : Int) == 58) = false := by rw [byte_q s p hp, hc]; rfl
  have q44 : ((s[p].toNat : Int) == 44) = true := by rw [byte_q s p hp, hc]; rfl
  clear hc
  go_enter Tryd.func52, Tryd.ntmps52
  go_wp2
  refine bodyPost_ret (v := .tuple #[tokV 6 p ((p : Int) + 1) emS 0, .nilIface]) (by simp [results, Tryd.results52, go_sem, tokV, emS]) rfl ⟨rfl, ?_⟩
  (repeat (first | exact Below.refl _ _ | refine Below.alloc ?_ (by first | (simp; done) | (simp; omega)) _ | refine Below.setCell ?_ (by first | (simp; done) | (simp; omega)) _))
set_option maxRecDepth 100000 in
set_option maxHeartbeats 2000000 in
theorem sign_0 (s : ByteArray) (p : Nat) (w : World) (hs : s.size ≤ 1000) (hp : p < s.size) (hc : sgnI (at0 s.data.toList p) = 0) : Calls Tryd.prog 52 #[.string s, .int .i64 (p : Int)] w fun e w' => e = tupV (tokV 0 0 0 emS 0) (fltV p 3) ∧ Below w.heap.size w w' := by
  unfold sgnI at hc
  have q123 : ((s[p].toNat : Int) == 123) = false := by
    rw [byte_q s p hp, decide_eq_false_iff_not]
    intro e; rw [e] at hc; revert hc; decide
  have q125 : ((s[p].toNat : Int) == 125) = false := by
    rw [byte_q s p hp, decide_eq_false_iff_not]
    intro e; rw [e] at hc; revert hc; decide
  have q91 : ((s[p].toNat : Int) == 91) = false := by
    rw [byte_q s p hp, decide_eq_false_iff_not]
    intro e; rw [e] at hc; revert hc; decide
  have q93 : ((s[p].toNat : Int) == 93) = false := by
    rw [byte_q s p hp, decide_eq_false_iff_not]
    intro e; rw [e] at hc; revert hc; decide
  have q58 : ((s[p].toNat : Int) == 58) = false := by
    rw [byte_q s p hp, decide_eq_false_iff_not]
    intro e; rw [e] at hc; revert hc; decide
  have q44 : ((s[p].toNat : Int) == 44) = false := by
    rw [byte_q s p hp, decide_eq_false_iff_not]
    intro e; rw [e] at hc; revert hc; decide
  clear hc
  go_enter Tryd.func52, Tryd.ntmps52
  go_wp2
  refine bodyPost_ret (v := .tuple #[tokV 0 0 0 emS 0, fltV p 3]) (by simp [results, Tryd.results52, go_sem, tokV, emS, fltV]) rfl ⟨rfl, ?_⟩
  (repeat (first | exact Below.refl _ _ | refine Below.alloc ?_ (by first | (simp; done) | (simp; omega)) _ | refine Below.setCell ?_ (by first | (simp; done) | (simp; omega)) _))
end Go.Proofs.YtkphainopofejaaDoor.Jt
