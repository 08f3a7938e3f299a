/- Contracts of Parse, Size and Hex of package num, and of the cut to forty bytes: for every text of at most a thousand bytes. -/
import Derived.Test.YteegbcjpganobaaDoorNuReads
import Derived.Test.YteegbcjpganobaaDoorNuShelf
namespace Go.Proofs.YteegbcjpganobaaDoor.Nu
open Go.RowKit
set_option linter.unusedSimpArgs false
set_option linter.unusedVariables false

def negB (l : List UInt8) : Bool := Lib.hasPrefix l [45]
def bodyL (l : List UInt8) : List UInt8 := Lib.trimPrefix l [45]
def badB (l : List UInt8) : Bool := decide (1 < l.length ∧ l.getD 0 0 = 48)
def pN (l : List UInt8) : Int := if badB (bodyL l) then 0 else if negB l then -(rdN 10 9223372036854775808 (bodyL l)) else rdN 10 9223372036854775807 (bodyL l)
def pE (l : List UInt8) : Int := if badB (bodyL l) then 3 else if negB l then rdE 10 9223372036854775808 (bodyL l) else rdE 10 9223372036854775807 (bodyL l)
theorem rdN_bd (B M : Int) (hB : B = 10 ∨ B = 16) (hM : 0 ≤ M) (l : List UInt8) : 0 ≤ rdN B M l ∧ rdN B M l ≤ M := by
  unfold rdN
  split
  · rename_i h; exact ⟨(val_bd hB l h.2.1).1, h.2.2⟩
  · omega
theorem body_len (l : List UInt8) : (bodyL l).length ≤ l.length := by unfold bodyL Lib.trimPrefix; split <;> simp
theorem getD_at (s : ByteArray) (k : Nat) (h : k < s.size) : s.data.toList.getD k 0 = s[k] := by
  rw [List.getD, Lib.data_getElem? s k h]; rfl
theorem byte_eq (s : ByteArray) (k : Nat) (h : k < s.size) (c : UInt8) (z : Int) (hz : z = (c.toNat : Int)) : ((s[k].toNat : Int) == z) = decide (s.data.toList.getD k 0 = c) := by
  subst hz
  rw [getD_at s k h]
  rw [Bool.eq_iff_iff]
  simp only [beq_iff_eq, decide_eq_true_eq]
  constructor
  · intro e; apply UInt8.toNat_inj.1; omega
  · intro e; rw [e]
theorem wrap_neg (n : Int) (h0 : 0 ≤ n) (h1 : n ≤ 9223372036854775808) : IntKind.i64.wrap (IntKind.u64.wrap (-n)) = -n := by
  rw [IntKind.wrap_u64, IntKind.wrap_i64]; omega

theorem hex_c (s : ByteArray) (w : World) (hs : s.size ≤ 10000) : Calls Tryd.prog 37 #[.string s] w fun e w' => e = .returned (.tuple #[.int .i64 (rdN 16 2147483647 s.data.toList), .int .i64 (rdE 16 2147483647 s.data.toList)]) ∧ w = w' := by
  have HR := Lib.hid (fun W => read16_c s 2147483647 W hs (by decide) (by decide))
  obtain ⟨n0, n1⟩ := rdN_bd 16 2147483647 (.inr rfl) (by decide) s.data.toList
  revert HR n0 n1
  generalize rdN 16 2147483647 s.data.toList = n
  generalize rdE 16 2147483647 s.data.toList = e0
  intro HR n0 n1
  go_enter Tryd.func37, Tryd.ntmps37
  go_wp2_with fail
  refine (HR.out _).mono ?_
  rintro e w' ⟨rfl, rfl⟩
  go_wp2
  go_ret2
  exact ⟨rfl, rfl⟩

def shortL (l : List UInt8) : List UInt8 := l.take 40
theorem short_sz (a : ByteArray) : (mkS (shortL a.data.toList)).size ≤ 40 := by rw [size_mkS]; unfold shortL; rw [List.length_take]; omega
end Go.Proofs.YteegbcjpganobaaDoor.Nu
