/- The walk of the document's own Begins; for every row of bytes. -/
import Derived.Test.YtkphainopofejaaDoorUtBegins
namespace Go.Proofs.YtkphainopofejaaDoor.Ut
open Go.RowKit
set_option linter.unusedSimpArgs false
set_option linter.unusedVariables false

theorem six_cells (w : World) : ∀ j, j < 6 → (w.alloc (.cells #[.int .u8 128, .int .u8 143, .int .u8 144, .int .u8 159, .int .u8 160, .int .u8 191] 5)).cell? ⟨w.heap.size, j, none⟩ = some (.int .u8 (gd sixL j)) := by
  intro j hj
  rw [World.cell?_alloc_at _ _ _ _ rfl]
  match j, hj with
  | 0, _ | 1, _ | 2, _ | 3, _ | 4, _ | 5, _ => rfl
theorem six_mem (j : Nat) (hj : j < 6) : gd sixL j ∈ sixL := by
  match j, hj with
  | 0, _ | 1, _ | 2, _ | 3, _ | 4, _ | 5, _ => simp [gd, sixL]
theorem six_at {x : Int} (h : x ∈ sixL) : ∃ j, j < 6 ∧ gd sixL j = x := by
  obtain ⟨j, hj, rfl⟩ := List.getElem_of_mem h
  exact ⟨j, hj, (gd_at hj).symm⟩

end Go.Proofs.YtkphainopofejaaDoor.Ut
