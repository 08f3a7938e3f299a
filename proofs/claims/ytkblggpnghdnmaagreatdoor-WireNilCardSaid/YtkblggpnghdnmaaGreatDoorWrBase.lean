/- What package wire's contracts lean on. -/
import Derived.Test.YtkblggpnghdnmaaGreatDoorHdParG
namespace Go.Proofs.YtkblggpnghdnmaaGreatDoor.Hd
open Go.RowKit Ch
set_option linter.unusedSimpArgs false
set_option linter.unusedVariables false

/-- chapter 12's example -/
def exW : List UInt8 := [71, 69, 84, 32, 47, 32, 72, 84, 84, 80, 47, 49, 46, 48, 13, 10, 13, 10]
def isMore (q : Except Int (FirT × List FldL × Nat)) : Bool := match q with | .error 1 => true | _ => false
theorem exW_more : ∀ k : Fin 18, isMore (hdL (exW.take k.val) 16 1) = true := by decide +kernel
def isAll (q : Except Int (FirT × List FldL × Nat)) : Bool := match q with | .ok (x, fs, k) => decide (x = ([71, 69, 84], [47], 0)) && fs.isEmpty && decide (k = 18) | _ => false
theorem exW_all : isAll (hdL exW 16 1) = true := by decide +kernel
theorem more_of {q : Except Int (FirT × List FldL × Nat)} (h : isMore q = true) : q = .error 1 := by
  unfold isMore at h
  split at h
  · rfl
  · cases h
theorem all_of {q : Except Int (FirT × List FldL × Nat)} (h : isAll q = true) : q = .ok (([71, 69, 84], [47], 0), [], 18) := by
  unfold isAll at h
  split at h
  · rename_i x fs k
    simp only [Bool.and_eq_true, decide_eq_true_eq] at h
    obtain ⟨⟨h1, h2⟩, h3⟩ := h
    subst h1; subst h3
    cases fs with
    | nil => rfl
    | cons => cases h2
  · cases h
end Go.Proofs.YtkblggpnghdnmaaGreatDoor.Hd
