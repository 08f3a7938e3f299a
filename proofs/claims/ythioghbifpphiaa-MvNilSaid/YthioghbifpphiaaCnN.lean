/- Contracts of package chain's New and All, of all its calls on a chain that is not there, and of the law's same; no other condition. -/
import Derived.Test.YthioghbifpphiaaCnJ
import Derived.Laws.StructEq
namespace Go.Proofs.Ythioghbifpphiaa.Cn
open Go.RowKit Go.Lib Go.Shelf Go.Sort
set_option linter.unusedSimpArgs false
set_option linter.unusedVariables false

set_option maxHeartbeats 1000000 in
theorem New_c (w : World) : Calls Try.prog 51 #[] w fun e w' => e = .returned (.pointer (some ⟨w.heap.size, 0, none⟩)) ∧ IsCh w.heap.size w.heap.size 0 none [] w' ∧ Below w.heap.size w w' := by
  go_enter Try.func51, Try.ntmps51
  go_wp2
  go_ret
  refine ⟨rfl, ⟨.slice none 0 0, [], 0, rfl, Nat.le_refl _, Nat.le_refl _, rfl, heap_alloc_new w _, World.ownsRow_nil _ _ _ _⟩, (Below.refl _ _).alloc (Nat.le_refl _) _⟩
set_option maxHeartbeats 1000000 in
theorem kept_nil (w : World) : Calls Try.prog 48 #[.pointer none] w fun e w' => e = .returned (.slice none 0 0) ∧ w' = w := by
  go_enter Try.func48, Try.ntmps48
  go_wp2
  go_ret
  exact ⟨rfl, rfl⟩
set_option maxHeartbeats 1000000 in
theorem Len_nil (w : World) : Calls Try.prog 37 #[.pointer none] w fun e w' => e = .returned (.int .i64 0) ∧ w' = w := by
  go_enter Try.func37, Try.ntmps37
  go_wp2_with fail
  refine (kept_nil w).mono ?_
  rintro e w' ⟨rfl, rfl⟩
  go_wp2
  go_ret
  exact ⟨rfl, rfl⟩
theorem up_nil (rev : Int) (w : World) : Calls Try.prog 49 #[.slice none 0 0, .int .i64 rev] w fun e w' => e = .returned (.int .i64 0) ∧ Below w.heap.size w w' := upTo_c none 0 [] rev w (rdv_nil _ _ _) List.Pairwise.nil (by simp)
set_option maxHeartbeats 1000000 in
theorem Spare_nil (rev : Int) (w : World) : Calls Try.prog 53 #[.pointer none, .int .i64 rev] w fun e w' => e = .returned (.int .i64 0) ∧ Below w.heap.size w w' := by
  go_enter Try.func53, Try.ntmps53
  go_wp2_with fail
  refine (kept_nil w).mono ?_
  rintro e w' ⟨rfl, rfl⟩
  go_wp2_with fail
  refine (up_nil rev _).mono ?_
  rintro e w2 ⟨rfl, hb⟩
  have HB := Lib.hid hb
  clear hb
  go_wp2
  go_ret
  exact ⟨rfl, HB.out⟩
set_option maxHeartbeats 1000000 in
theorem Compact_nil (rev : Int) (w : World) : Calls Try.prog 36 #[.pointer none, .int .i64 rev] w fun e w' => e = .returned (.int .i64 0) ∧ Below w.heap.size w w' := by
  go_enter Try.func36, Try.ntmps36
  go_wp2_with fail
  refine (Spare_nil rev w).mono ?_
  rintro e w' ⟨rfl, hb⟩
  have HB := Lib.hid hb
  clear hb
  go_wp2
  go_ret
  exact ⟨rfl, HB.out⟩
set_option maxHeartbeats 1000000 in
theorem Put_nil (v : Ver) (w : World) : Calls Try.prog 52 #[.pointer none, aggV v] w fun e w' => e = .returned (.int .i64 2) ∧ Below w.heap.size w w' := by
  unfold aggV
  go_enter Try.func52, Try.ntmps52
  go_wp2
  go_ret
  exact ⟨rfl, (Below.refl _ _).alloc (Nat.le_refl _) _⟩
set_option maxRecDepth 100000 in
set_option maxHeartbeats 1000000 in
theorem Last_nil (w : World) : Calls Try.prog 60 #[.pointer none] w fun e w' => e = .returned (vb zeroV false) ∧ Below w.heap.size w w' := by
  obtain ⟨W0, hW0, hk0, hb0⟩ := new3 w (.int .i64 0) (.string ⟨#[]⟩) (.bool false) 78
  have hlt0 : w.heap.size < W0.heap.size := (Array.getElem?_eq_some_iff.1 hk0).1
  have HW0 := Lib.hid hW0
  have HB0 := Lib.hid hb0
  obtain ⟨c0, c1, c2⟩ := cells3 hk0
  have f0 := frz hk0 0
  have f1 := frz hk0 1
  have f2 := frz hk0 2
  have HK0 := Lib.hid hk0
  clear hW0 hb0 hk0
  go_enter Try.func60, Try.ntmps60
  go_wp2_with fail
  rw [← HW0.out]
  refine (kept_nil W0).mono ?_
  rintro e w' ⟨rfl, rfl⟩
  have HBX := Lib.hid (box3 HK0.out HB0.out (Below.refl _ _) (.int .i64 0) (.string ⟨#[]⟩) (.bool false))
  go_wp2
  obtain ⟨W2, hW2, d0, d1, d2, hb2⟩ := HBX.out
  rw [← hW2]
  exact bodyPost_ret (v := vb zeroV false) (by simp [results, Try.results60, go_sem, d0, d1, d2, vb, aggV, zeroV]; rfl) rfl ⟨rfl, hb2⟩
set_option maxRecDepth 100000 in
set_option maxHeartbeats 1000000 in
theorem At_nil (rev : Int) (w : World) : Calls Try.prog 32 #[.pointer none, .int .i64 rev] w fun e w' => e = .returned (vb zeroV false) ∧ Below w.heap.size w w' := by
  obtain ⟨W0, hW0, hk0, hb0⟩ := new3 w (.int .i64 0) (.string ⟨#[]⟩) (.bool false) 78
  have hlt0 : w.heap.size < W0.heap.size := (Array.getElem?_eq_some_iff.1 hk0).1
  have HW0 := Lib.hid hW0
  have HB0 := Lib.hid hb0
  have HK0 := Lib.hid hk0
  clear hW0 hb0 hk0
  go_enter Try.func32, Try.ntmps32
  go_wp2_with fail
  rw [← HW0.out]
  refine (kept_nil W0).mono ?_
  rintro e w' ⟨rfl, rfl⟩
  go_wp2_with fail
  refine (up_nil rev _).mono ?_
  rintro e w2 ⟨rfl, hb⟩
  have hk2 := (hb.block _ hlt0).trans HK0.out
  have f0 := frz hk2 0
  have f1 := frz hk2 1
  have f2 := frz hk2 2
  obtain ⟨c0, c1, c2⟩ := cells3 hk2
  have HBX := Lib.hid (box3 HK0.out HB0.out hb (.int .i64 0) (.string ⟨#[]⟩) (.bool false))
  clear hb hk2
  go_wp2
  obtain ⟨W2, hW2, d0, d1, d2, hb2⟩ := HBX.out
  rw [← hW2]
  exact bodyPost_ret (v := vb zeroV false) (by simp [results, Try.results32, go_sem, d0, d1, d2, vb, aggV, zeroV]; rfl) rfl ⟨rfl, hb2⟩
def KpP (l : List Ver) (w : World) (e : Ending) (w' : World) : Prop := ∃ ao cap, e = .returned (.slice ao l.length cap) ∧ RdV (.slice ao l.length cap) l w ∧ (∀ a, ao = some a → ∃ g off, a = ⟨g, off, none⟩) ∧ ∃ n, w' = w.drewN n
set_option maxRecDepth 100000 in
set_option maxHeartbeats 1000000 in
theorem kept_p (B c N : Nat) (gb : Option Nat) (l : List Ver) (w : World) (h : IsCh B c N gb l w) (hN : N ≤ 1000000) :
    Calls Try.prog 48 #[.pointer (some ⟨c, 0, none⟩)] w (KpP l w) := by
  obtain ⟨v, all, k, h1, h2, h3, h4, h5, h6⟩ := h
  have c0 := cell_of_row _ _ 0 _ _ _ h5
  have c1 := cell_of_row _ _ 1 _ _ _ h5
  simp at c0 c1
  have H4 := Lib.hid h4
  have H6 := Lib.hid h6
  rcases own_slV h6 with ⟨rfl, h0⟩ | ⟨g, cap, rfl, hn, hm, hg⟩
  · have hk : k = 0 := by omega
    subst hk
    have hl0 : l = [] := by rw [← h4]; simpa using h0
    subst hl0
    clear h1 h2 h3 h4 h5 h6 h0 H4 H6
    go_enter Try.func48, Try.ntmps48
    go_wp2
    go_quiet (fail)
    go_wp2
    go_ret
    exact ⟨none, 0, rfl, rdv_nil _ _ _, by simp, _, rfl⟩
  · unfold maxLen at hm
    have hll : all.length - k = l.length := by rw [← h4, List.length_drop]
    have HLL := Lib.hid hll
    by_cases hkc : k = cap
    · have hn2 : all.length = cap := by omega
      have hl0 : l = [] := by
        have : l.length = 0 := by rw [← hll]; omega
        exact List.eq_nil_of_length_eq_zero this
      subst hl0
      subst hkc
      rw [hn2] at c0
      clear h1 h2 h3 h4 h5 h6 hn hn2 hll HLL H4 H6
      go_enter Try.func48, Try.ntmps48
      go_wp2
      go_quiet (fail)
      go_wp2
      go_ret
      exact ⟨_, _, rfl, rdv_nil _ _ _, fun a ha => ⟨_, _, (by injection ha with ha; exact ha.symm)⟩, _, rfl⟩
    · have hR := Lib.hid (h6.drop k h2 (cap - k))
      have hkc2 : k < cap := by omega
      have hk0 : (0 : Int) ≤ (k : Int) := by omega
      have hkn : (k : Int) ≤ (all.length : Int) := by omega
      have hkp : (k : Int) ≤ (cap : Int) := by omega
      have hkz : ¬ (k : Int) = (cap : Int) := by omega
      rw [hll, H4.out] at hR
      clear h1 h3 h4 h5 h6 H4 H6
      go_enter Try.func48, Try.ntmps48
      go_wp2
      go_quiet (fail)
      go_wp2
      go_ret
      exact ⟨_, _, rfl, hR.out, fun a ha => ⟨_, _, (by injection ha with ha; exact ha.symm)⟩, _, rfl⟩
theorem neqV (a c : Int) (b d : ByteArray) (x y : Bool) (W : World) : (binOp .neq 78 (.agg #[.int .i64 a, .string b, .bool x]) (.agg #[.int .i64 c, .string d, .bool y])).run Try.prog W = .ok (.bool (!decide (a = c ∧ b.data.toList = d.data.toList ∧ x = y))) W := by
  have u9 := Try.underlying9
  have hS : Try.prog.underlying 78 = some (.struct (Try.prog.fieldsOf 78)) := by kernel_rfl
  have hp : Try.prog.stoodInHeld 78 = false := by kernel_rfl
  rw [run_neq_struct, show (10000 : Nat) = 9999 + 1 from rfl, run_equalIn_agg W 9999 78 _ _ hS hp]
  simp only [Program.fieldsOf, Try.underlying78]
  go_simp
  simp only [Lib.toList_data]
  by_cases h1 : a = c <;> by_cases h2 : b.data = d.data <;> by_cases h3 : x = y <;> simp [h1, h2, h3]
end Go.Proofs.Ythioghbifpphiaa.Cn
