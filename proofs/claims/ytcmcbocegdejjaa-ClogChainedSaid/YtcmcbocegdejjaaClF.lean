/- The contract of package clog's Add, that is refused; no other condition. -/
import Derived.Test.YtcmcbocegdejjaaClE
namespace Go.Proofs.Ytcmcbocegdejjaa.Cl
open Go.RowKit Go.Lib Go.Shelf Go.Sort
set_option linter.unusedSimpArgs false
set_option linter.unusedVariables false

theorem Add_nil (rev : Int) (v : Value) (w : World) : Calls Try.prog 20 #[.pointer none, .int .i64 rev, v] w fun e w' => e = .returned (.int .i64 2) ∧ w' = w := by
  go_enter Try.func20, Try.ntmps20
  go_wp2
  go_ret
  exact ⟨rfl, rfl⟩
theorem Add_arg {B c : Nat} {gb : Option Nat} {m : Int} {l : List Ent} {fl la : Int} {w : World} (h : IsLg B c gb m l fl la w) (rev : Int) (v : Value) (hr : rev ≤ la) : Calls Try.prog 20 #[.pointer (some ⟨c, 0, none⟩), .int .i64 rev, v] w fun e w' => e = .returned (.int .i64 1) ∧ w' = w := by
  obtain ⟨v, hv, _, _⟩ := h.ex
  obtain ⟨c0, c1, c2, c3⟩ := cells4 hv
  clear h hv
  go_enter Try.func20, Try.ntmps20
  go_wp2
  go_ret
  exact ⟨rfl, rfl⟩
end Go.Proofs.Ytcmcbocegdejjaa.Cl
