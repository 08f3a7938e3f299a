/- New of both stores; no other condition. -/
import Derived.Test.YtjceofkcahfhmaaMvEd
namespace Go.Proofs.Ytjceofkcahfhmaa.Mv
open Go.RowKit Go.Lib Go.Maps Go.Shelf Go.Sort
open Go.Proofs.Ytjceofkcahfhmaa.Cn
set_option linter.unusedSimpArgs false
set_option linter.unusedVariables false

set_option maxRecDepth 100000 in
set_option maxHeartbeats 2000000 in
theorem New_c (k v : Int) (w : World) : Calls Try.prog 6 #[.agg #[.int .i64 k, .int .i64 v]] w fun e w' => e = .returned (.pointer (some ⟨w.heap.size + 1, 0, none⟩)) ∧ w'.heap[w.heap.size + 1]? = some (obN k v 0 0 (.map none) 0 0 (.slice none 0 0)) ∧ Below w.heap.size w w' := by
  obtain ⟨W0, hW0⟩ : ∃ W0, W0 = w.alloc (.cells #[.int .i64 k, .int .i64 v] 26) := ⟨_, rfl⟩
  have hk0 : W0.heap[w.heap.size]? = some (.cells #[.int .i64 k, .int .i64 v] 26 (0, 0)) := by rw [hW0]; exact heap_alloc_new w _
  have hb0 : Below w.heap.size w W0 := by rw [hW0]; exact (Below.refl _ _).alloc (Nat.le_refl _) _
  have hz0 : W0.heap.size = w.heap.size + 1 := by rw [hW0]; simp
  obtain ⟨W1, hW1⟩ : ∃ W1, W1 = W0.alloc (obN k v 0 0 (.map none) 0 0 (.slice none 0 0)) := ⟨_, rfl⟩
  have hk1 : W1.heap[w.heap.size + 1]? = some (obN k v 0 0 (.map none) 0 0 (.slice none 0 0)) := by rw [hW1, ← hz0]; exact heap_alloc_new W0 _
  have HB1 : Hid (Below w.heap.size w W1) := by rw [hW1]; exact Lib.hid (hb0.alloc hb0.size _)
  have x0 := cell_of_row _ _ 0 _ _ _ hk0
  have x1 := cell_of_row _ _ 1 _ _ _ hk0
  have HK1 := Lib.hid hk1
  have HW0 := Lib.hid hW0
  have HW1 := Lib.hid hW1
  have HZ0 := Lib.hid hz0
  clear hk0 hb0 hz0 hk1 hW0 hW1
  go_enter Try.func6, Try.ntmps6
  go_upto_region 1 with (fail)
  rw [← HW0.out]
  go_wp2
  rw [← HW1.out]
  go_ret
  exact ⟨by simp [Array.getD]; exact HZ0.out, HK1.out, HB1.out⟩
set_option maxRecDepth 100000 in
set_option maxHeartbeats 2000000 in
theorem NewR_c (k v : Int) (w : World) : Calls Try.prog 7 #[.int .i64 k, .int .i64 v] w fun e w' => e = .returned (.pointer (some ⟨w.heap.size + 1, 0, none⟩)) ∧ w'.heap[w.heap.size]? = some (.cells #[.slice none 0 0] 40 (0, 0)) ∧ w'.heap[w.heap.size + 1]? = some (.cells #[.slice (some ⟨w.heap.size, 0, none⟩) 1 1, .int .i64 (max k 1), .int .i64 (max v 1), .int .i64 0, .slice none 0 0, .slice none 0 0] 38 (0, 0)) ∧ Below w.heap.size w w' := by
  obtain ⟨W0, hW0, hk0, hb0⟩ := new1 w (.slice none 0 0) 40
  have hz0 : W0.heap.size = w.heap.size + 1 := by rw [hW0]; simp
  obtain ⟨W1, hW1⟩ : ∃ W1, W1 = W0.alloc (.cells #[.slice (some ⟨w.heap.size, 0, none⟩) 1 1, .int .i64 (max k 1), .int .i64 (max v 1), .int .i64 0, .slice none 0 0, .slice none 0 0] 38) := ⟨_, rfl⟩
  have hk1 : W1.heap[w.heap.size + 1]? = some (.cells #[.slice (some ⟨w.heap.size, 0, none⟩) 1 1, .int .i64 (max k 1), .int .i64 (max v 1), .int .i64 0, .slice none 0 0, .slice none 0 0] 38 (0, 0)) := by rw [hW1, ← hz0]; exact heap_alloc_new W0 _
  have hb1 : Below W0.heap.size W0 W1 := by rw [hW1]; exact (Below.refl _ _).alloc (Nat.le_refl _) _
  have HK0 : Hid (W1.heap[w.heap.size]? = some (.cells #[.slice none 0 0] 40 (0, 0))) := (hb1.block _ (by omega)).trans hk0
  have HB1 : Hid (Below w.heap.size w W1) := hb0.trans (hb1.mono hb0.size)
  have HK1 := Lib.hid hk1
  have HW0 := Lib.hid hW0
  have HZ0 := Lib.hid hz0
  by_cases d1 : k < 1 <;> by_cases d2 : v < 1
  · rw [show max k 1 = 1 by omega, show max v 1 = 1 by omega] at hW1
    have HW1 := Lib.hid hW1
    clear hk0 hb0 hz0 hk1 hb1 hW0 hW1
    go_enter Try.func7, Try.ntmps7
    go_wp2
    rw [← HW0.out, ← HW1.out]
    go_ret
    exact ⟨by simp [Array.getD] <;> exact HZ0.out, HK0.out, HK1.out, HB1.out⟩
  · rw [show max k 1 = 1 by omega, show max v 1 = v by omega] at hW1
    have HW1 := Lib.hid hW1
    clear hk0 hb0 hz0 hk1 hb1 hW0 hW1
    go_enter Try.func7, Try.ntmps7
    go_wp2
    rw [← HW0.out, ← HW1.out]
    go_ret
    exact ⟨by simp [Array.getD] <;> exact HZ0.out, HK0.out, HK1.out, HB1.out⟩
  · rw [show max k 1 = k by omega, show max v 1 = 1 by omega] at hW1
    have HW1 := Lib.hid hW1
    clear hk0 hb0 hz0 hk1 hb1 hW0 hW1
    go_enter Try.func7, Try.ntmps7
    go_wp2
    rw [← HW0.out, ← HW1.out]
    go_ret
    exact ⟨by simp [Array.getD] <;> exact HZ0.out, HK0.out, HK1.out, HB1.out⟩
  · rw [show max k 1 = k by omega, show max v 1 = v by omega] at hW1
    have HW1 := Lib.hid hW1
    clear hk0 hb0 hz0 hk1 hb1 hW0 hW1
    go_enter Try.func7, Try.ntmps7
    go_wp2
    rw [← HW0.out, ← HW1.out]
    go_ret
    exact ⟨by simp [Array.getD] <;> exact HZ0.out, HK0.out, HK1.out, HB1.out⟩
theorem mv_new {c : Nat} {k v : Int} {w : World} (h : w.heap[c]? = some (obN k v 0 0 (.map none) 0 0 (.slice none 0 0))) : IsMv 0 c 0 none (fun _ => none) k v 0 0 0 0 (.slice none 0 0) w :=
  ⟨h, .inl ⟨rfl, fun _ => rfl⟩, ⟨fun k x hx => (by cases hx), fun k k' x y _ hx => (by cases hx)⟩, Nat.zero_le _⟩
theorem isr_new {g : Nat} {k v : Int} {w : World} (h0 : w.heap[g]? = some (.cells #[.slice none 0 0] 40 (0, 0))) (h1 : w.heap[g + 1]? = some (.cells #[.slice (some ⟨g, 0, none⟩) 1 1, .int .i64 k, .int .i64 v, .int .i64 0, .slice none 0 0, .slice none 0 0] 38 (0, 0))) : IsR (fun j => j = g) (fun j => j = g ∨ j = g + 1) (g + 1) [[]] k v 0 [] [] w := by
  refine ⟨⟨_, _, _, [], h1, ⟨g, 1, rfl, Nat.le_refl _, Nat.zero_lt_one, rfl, (Array.getElem?_eq_some_iff.1 h0).1, fun i hi => ?_⟩, World.ownsRow_nil _ _ _ _, fun g e => (by cases e), World.ownsRow_nil _ _ _ _, fun g e => (by cases e), rfl, fun i hi => absurd hi (Nat.not_lt_zero _)⟩, ⟨.inr rfl, fun e => by omega⟩, fun k e => .inl e⟩
  have hi0 : i = 0 := by simp at hi; exact hi
  subst hi0
  exact ⟨_, by rw [cell_of_row _ _ _ _ _ _ h0]; rfl, RdI.nil _ _⟩
end Go.Proofs.Ytjceofkcahfhmaa.Mv
