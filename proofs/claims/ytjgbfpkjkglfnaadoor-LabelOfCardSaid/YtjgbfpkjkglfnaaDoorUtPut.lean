/- The contract of Put of package utf: a rune's bytes in a new slice, or nil and ErrArg; where the tables lie as the program's text lays them. -/
import Derived.Test.YtjgbfpkjkglfnaaDoorUtNextR
namespace Go.Proofs.YtjgbfpkjkglfnaaDoor.Ut
open Go.RowKit
set_option linter.unusedSimpArgs false
set_option linter.unusedVariables false

theorem mk1 : ∀ W : World, (Instr.makeSlice 61 (.int .i64 1) (.int .i64 1)).run Tryd.prog W = .ok (.slice (some ⟨W.heap.size, 0, none⟩) 1 1) (W.alloc (.cells #[.int .u8 0] 5)) := fun _ => by kernel_rfl
theorem mk2 : ∀ W : World, (Instr.makeSlice 61 (.int .i64 2) (.int .i64 2)).run Tryd.prog W = .ok (.slice (some ⟨W.heap.size, 0, none⟩) 2 2) (W.alloc (.cells #[.int .u8 0, .int .u8 0] 5)) := fun _ => by kernel_rfl
theorem mk3 : ∀ W : World, (Instr.makeSlice 61 (.int .i64 3) (.int .i64 3)).run Tryd.prog W = .ok (.slice (some ⟨W.heap.size, 0, none⟩) 3 3) (W.alloc (.cells #[.int .u8 0, .int .u8 0, .int .u8 0] 5)) := fun _ => by kernel_rfl
theorem mk4 : ∀ W : World, (Instr.makeSlice 61 (.int .i64 4) (.int .i64 4)).run Tryd.prog W = .ok (.slice (some ⟨W.heap.size, 0, none⟩) 4 4) (W.alloc (.cells #[.int .u8 0, .int .u8 0, .int .u8 0, .int .u8 0] 5)) := fun _ => by kernel_rfl
theorem tailb (x : Int) (h0 : 0 ≤ x) (h1 : x < 2147483648) : bits .or .u8 128 (bits .and .i32 x 63 % 256) = 128 + x % 64 := by
  have h := bits_mask .i32 31 (by decide) wraps_i32 6 (by decide) x h0 (by omega)
  have e : (2 : Int) ^ 6 - 1 = 63 := by decide
  have e2 : (2 : Int) ^ 6 = 64 := by decide
  rw [e, e2] at h
  rw [h, show x % 64 % 256 = x % 64 by omega]
  exact u8_or128 (x % 64) (by omega) (by omega)
/-- a new slice of these bytes, and OK -/
def New2 (zs : List Int) (w : World) (e : Ending) (w' : World) : Prop := ∃ g cap, e = .returned (.tuple #[.slice (some ⟨g, 0, none⟩) zs.length cap, .int .i64 0]) ∧ zs.length ≤ cap ∧ cap ≤ maxLen ∧ g < w'.heap.size ∧ Bts w' g 0 zs ∧ Below w.heap.size w w'
theorem or0_all : ∀ n : Fin 256, bits .or .u8 0 (n.val : Int) = (n.val : Int) := by decide +kernel
theorem or0 (c : Int) (h0 : 0 ≤ c) (h1 : c ≤ 255) : bits .or .u8 0 c = c := by
  have h := or0_all ⟨c.toNat, by omega⟩
  have e : ((c.toNat : Nat) : Int) = c := by omega
  simp only [e] at h
  exact h
theorem some_int {a b : Int} (h : a = b) : some (Value.int .u8 a) = some (Value.int .u8 b) := by rw [h]
end Go.Proofs.YtjgbfpkjkglfnaaDoor.Ut
