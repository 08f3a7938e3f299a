/- The contract of the document's own Next: the same answer as the plain one; for every row of bytes. -/
import Derived.Test.YtkphainopofejaaDoorUtBeginsW
namespace Go.Proofs.YtkphainopofejaaDoor.Ut
open Go.RowKit
set_option linter.unusedSimpArgs false
set_option linter.unusedVariables false

def nextW (zs : List Int) : Int × Int := if zs = [] then (0, 0) else nextR zs
theorem szI_le (z : Int) : szI z ≤ 4 := by unfold szI; (repeat' split) <;> omega
theorem nextW_hit {zs : List Int} {j : Nat} (hy : Byt zs) (h1 : 1 ≤ j) (h4 : j ≤ 4) (hj : j ≤ zs.length) (h : encOK zs j) : nextW zs = (valT zs j, (j : Int)) := by
  rw [enc_iff zs j hy h1 h4 hj] at h
  obtain ⟨hs, hok⟩ := h
  have hz : zs ≠ [] := fun e => by subst e; simp at hj; omega
  unfold nextW nextR
  rw [if_neg hz, if_neg (by omega), show min zs.length (szI (gd zs 0)) = j by omega, if_pos hok, if_neg (by omega), hs]
theorem nextW_beg {zs : List Int} (h : begP zs) : nextW zs = (0, -1) := by
  obtain ⟨h1, h3, hs, hok⟩ := h
  have hz : zs ≠ [] := fun e => by subst e; simp at h1
  unfold nextW nextR
  rw [if_neg hz, if_neg (by omega), show min zs.length (szI (gd zs 0)) = zs.length by omega, if_pos hok, if_pos hs]
theorem nextW_no {zs : List Int} (hy : Byt zs) (hb : ¬ begP zs) (h : ∀ j, 1 ≤ j → j ≤ 4 → j ≤ zs.length → ¬ encOK zs j) : nextW zs = (0, 0) := by
  unfold nextW nextR
  by_cases hz : zs = []
  · rw [if_pos hz]
  · rw [if_neg hz]
    have hp : 0 < zs.length := List.length_pos_iff.2 hz
    by_cases hs : szI (gd zs 0) = 0
    · rw [if_pos hs]
    · rw [if_neg hs]
      have h4 := szI_le (gd zs 0)
      rw [if_neg ?_]
      intro hok
      by_cases hl : zs.length < szI (gd zs 0)
      · rw [show min zs.length (szI (gd zs 0)) = zs.length by omega] at hok
        exact hb ⟨by omega, by omega, hl, hok⟩
      · rw [show min zs.length (szI (gd zs 0)) = szI (gd zs 0) by omega] at hok
        exact h (szI (gd zs 0)) (by omega) h4 (by omega) ((enc_iff zs _ hy (by omega) h4 (by omega)).2 ⟨rfl, hok⟩)

def tup2 (a b : Int) : Ending := .returned (.tuple #[.int .i64 a, .int .i64 b])

end Go.Proofs.YtkphainopofejaaDoor.Ut
