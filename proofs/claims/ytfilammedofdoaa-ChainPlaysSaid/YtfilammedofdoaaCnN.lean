/- Contracts of package chain's New and All, of all its calls on a chain that is not there, and of the law's same; no other condition. -/
import Derived.Test.YtfilammedofdoaaCnM
import Derived.Laws.StructEq
namespace Go.Proofs.Ytfilammedofdoaa.Cn
open Go.RowKit Go.Lib Go.Shelf Go.Sort
set_option linter.unusedSimpArgs false
set_option linter.unusedVariables false

set_option maxHeartbeats 1000000 in
theorem New_c (w : World) : Calls Try.prog 6 #[] w fun e w' => e = .returned (.pointer (some ⟨w.heap.size, 0, none⟩)) ∧ IsCh w.heap.size w.heap.size 0 none [] w' ∧ Below w.heap.size w w' := by
  go_enter Try.func6, Try.ntmps6
  go_wp2
  go_ret
  refine ⟨rfl, ⟨.slice none 0 0, [], 0, rfl, Nat.le_refl _, Nat.le_refl _, rfl, heap_alloc_new w _, World.ownsRow_nil _ _ _ _⟩, (Below.refl _ _).alloc (Nat.le_refl _) _⟩
set_option maxHeartbeats 1000000 in
theorem kept_nil (w : World) : Calls Try.prog 20 #[.pointer none] w fun e w' => e = .returned (.slice none 0 0) ∧ w' = w := by
  go_enter Try.func20, Try.ntmps20
  go_wp2
  go_ret
  exact ⟨rfl, rfl⟩
set_option maxHeartbeats 1000000 in
theorem Len_nil (w : World) : Calls Try.prog 8 #[.pointer none] w fun e w' => e = .returned (.int .i64 0) ∧ w' = w := by
  go_enter Try.func8, Try.ntmps8
  go_wp2_with fail
  refine (kept_nil w).mono ?_
  rintro e w' ⟨rfl, rfl⟩
  go_wp2
  go_ret
  exact ⟨rfl, rfl⟩
theorem up_nil (rev : Int) (w : World) : Calls Try.prog 21 #[.slice none 0 0, .int .i64 rev] w fun e w' => e = .returned (.int .i64 0) ∧ Below w.heap.size w w' := upTo_c none 0 [] rev w (rdv_nil _ _ _) List.Pairwise.nil (by simp)
set_option maxHeartbeats 1000000 in
theorem Spare_nil (rev : Int) (w : World) : Calls Try.prog 16 #[.pointer none, .int .i64 rev] w fun e w' => e = .returned (.int .i64 0) ∧ Below w.heap.size w w' := by
  go_enter Try.func16, Try.ntmps16
  go_wp2_with fail
  refine (kept_nil w).mono ?_
  rintro e w' ⟨rfl, rfl⟩
  go_wp2_with fail
  refine (up_nil rev _).mono ?_
  rintro e w2 ⟨rfl, hb⟩
  have HB := Lib.hid hb
  clear hb
  go_wp2
  go_ret
  exact ⟨rfl, HB.out⟩
set_option maxHeartbeats 1000000 in
theorem Compact_nil (rev : Int) (w : World) : Calls Try.prog 15 #[.pointer none, .int .i64 rev] w fun e w' => e = .returned (.int .i64 0) ∧ Below w.heap.size w w' := by
  go_enter Try.func15, Try.ntmps15
  go_wp2_with fail
  refine (Spare_nil rev w).mono ?_
  rintro e w' ⟨rfl, hb⟩
  have HB := Lib.hid hb
  clear hb
  go_wp2
  go_ret
  exact ⟨rfl, HB.out⟩
set_option maxHeartbeats 1000000 in
theorem Put_nil (v : Ver) (w : World) : Calls Try.prog 17 #[.pointer none, aggV v] w fun e w' => e = .returned (.int .i64 2) ∧ Below w.heap.size w w' := by
  unfold aggV
  go_enter Try.func17, Try.ntmps17
  go_wp2
  go_ret
  exact ⟨rfl, (Below.refl _ _).alloc (Nat.le_refl _) _⟩
set_option maxHeartbeats 1000000 in
theorem All_nil (w : World) : Calls Try.prog 13 #[.pointer none] w fun e w' => ∃ v, e = .returned v ∧ RdV v [] w' ∧ Below w.heap.size w w' := by
  have HC := Lib.hid (clone_c none 0 [] w (rdv_nil _ _ _) (by simp) (by simp))
  go_enter Try.func13, Try.ntmps13
  go_wp2_with fail
  refine (kept_nil w).mono ?_
  rintro e w' ⟨rfl, rfl⟩
  go_wp2_with fail
  refine HC.out.mono ?_
  rintro e w2 ⟨v, rfl, hr, hb⟩
  have HR := Lib.hid hr
  have HB := Lib.hid hb
  clear hr hb HC
  go_wp2
  go_ret
  exact ⟨_, rfl, HR.out, HB.out⟩
set_option maxRecDepth 100000 in
set_option maxHeartbeats 1000000 in
theorem Last_nil (w : World) : Calls Try.prog 11 #[.pointer none] w fun e w' => e = .returned (vb zeroV false) ∧ Below w.heap.size w w' := by
  obtain ⟨W0, hW0, hk0, hb0⟩ := new3 w (.int .i64 0) (.string ⟨#[]⟩) (.bool false) 33
  have hlt0 : w.heap.size < W0.heap.size := (Array.getElem?_eq_some_iff.1 hk0).1
  have HW0 := Lib.hid hW0
  have HB0 := Lib.hid hb0
  obtain ⟨c0, c1, c2⟩ := cells3 hk0
  have f0 := frz hk0 0
  have f1 := frz hk0 1
  have f2 := frz hk0 2
  have HK0 := Lib.hid hk0
  clear hW0 hb0 hk0
  go_enter Try.func11, Try.ntmps11
  go_wp2_with fail
  rw [← HW0.out]
  refine (kept_nil W0).mono ?_
  rintro e w' ⟨rfl, rfl⟩
  have HBX := Lib.hid (box3 HK0.out HB0.out (Below.refl _ _) (.int .i64 0) (.string ⟨#[]⟩) (.bool false))
  go_wp2
  obtain ⟨W2, hW2, d0, d1, d2, hb2⟩ := HBX.out
  rw [← hW2]
  exact bodyPost_ret (v := vb zeroV false) (by simp [results, Try.results11, go_sem, d0, d1, d2, vb, aggV, zeroV]; rfl) rfl ⟨rfl, hb2⟩
set_option maxRecDepth 100000 in
set_option maxHeartbeats 1000000 in
theorem At_nil (rev : Int) (w : World) : Calls Try.prog 9 #[.pointer none, .int .i64 rev] w fun e w' => e = .returned (vb zeroV false) ∧ Below w.heap.size w w' := by
  obtain ⟨W0, hW0, hk0, hb0⟩ := new3 w (.int .i64 0) (.string ⟨#[]⟩) (.bool false) 33
  have hlt0 : w.heap.size < W0.heap.size := (Array.getElem?_eq_some_iff.1 hk0).1
  have HW0 := Lib.hid hW0
  have HB0 := Lib.hid hb0
  have HK0 := Lib.hid hk0
  clear hW0 hb0 hk0
  go_enter Try.func9, Try.ntmps9
  go_wp2_with fail
  rw [← HW0.out]
  refine (kept_nil W0).mono ?_
  rintro e w' ⟨rfl, rfl⟩
  go_wp2_with fail
  refine (up_nil rev _).mono ?_
  rintro e w2 ⟨rfl, hb⟩
  have hk2 := (hb.block _ hlt0).trans HK0.out
  have f0 := frz hk2 0
  have f1 := frz hk2 1
  have f2 := frz hk2 2
  obtain ⟨c0, c1, c2⟩ := cells3 hk2
  have HBX := Lib.hid (box3 HK0.out HB0.out hb (.int .i64 0) (.string ⟨#[]⟩) (.bool false))
  clear hb hk2
  go_wp2
  obtain ⟨W2, hW2, d0, d1, d2, hb2⟩ := HBX.out
  rw [← hW2]
  exact bodyPost_ret (v := vb zeroV false) (by simp [results, Try.results9, go_sem, d0, d1, d2, vb, aggV, zeroV]; rfl) rfl ⟨rfl, hb2⟩
def KpP (l : List Ver) (w : World) (e : Ending) (w' : World) : Prop := ∃ ao cap, e = .returned (.slice ao l.length cap) ∧ RdV (.slice ao l.length cap) l w ∧ (∀ a, ao = some a → ∃ g off, a = ⟨g, off, none⟩) ∧ ∃ n, w' = w.drewN n
set_option maxRecDepth 100000 in
set_option maxHeartbeats 1000000 in
theorem kept_p (B c N : Nat) (gb : Option Nat) (l : List Ver) (w : World) (h : IsCh B c N gb l w) (hN : N ≤ 1000000) :
    Calls Try.prog 20 #[.pointer (some ⟨c, 0, none⟩)] w (KpP l w) := by
  obtain ⟨v, all, k, h1, h2, h3, h4, h5, h6⟩ := h
  have c0 := cell_of_row _ _ 0 _ _ _ h5
  have c1 := cell_of_row _ _ 1 _ _ _ h5
  simp at c0 c1
  have H4 := Lib.hid h4
  have H6 := Lib.hid h6
  rcases own_slV h6 with ⟨rfl, h0⟩ | ⟨g, cap, rfl, hn, hm, hg⟩
  · have hk : k = 0 := by omega
    subst hk
    have hl0 : l = [] := by rw [← h4]; simpa using h0
    subst hl0
    clear h1 h2 h3 h4 h5 h6 h0 H4 H6
    go_enter Try.func20, Try.ntmps20
    go_wp2
    go_quiet (fail)
    go_wp2
    go_ret
    exact ⟨none, 0, rfl, rdv_nil _ _ _, by simp, _, rfl⟩
  · unfold maxLen at hm
    have hll : all.length - k = l.length := by rw [← h4, List.length_drop]
    have HLL := Lib.hid hll
    by_cases hkc : k = cap
    · have hn2 : all.length = cap := by omega
      have hl0 : l = [] := by
        have : l.length = 0 := by rw [← hll]; omega
        exact List.eq_nil_of_length_eq_zero this
      subst hl0
      subst hkc
      rw [hn2] at c0
      clear h1 h2 h3 h4 h5 h6 hn hn2 hll HLL H4 H6
      go_enter Try.func20, Try.ntmps20
      go_wp2
      go_quiet (fail)
      go_wp2
      go_ret
      exact ⟨_, _, rfl, rdv_nil _ _ _, fun a ha => ⟨_, _, (by injection ha with ha; exact ha.symm)⟩, _, rfl⟩
    · have hR := Lib.hid (h6.drop k h2 (cap - k))
      have hkc2 : k < cap := by omega
      have hk0 : (0 : Int) ≤ (k : Int) := by omega
      have hkn : (k : Int) ≤ (all.length : Int) := by omega
      have hkp : (k : Int) ≤ (cap : Int) := by omega
      have hkz : ¬ (k : Int) = (cap : Int) := by omega
      rw [hll, H4.out] at hR
      clear h1 h3 h4 h5 h6 H4 H6
      go_enter Try.func20, Try.ntmps20
      go_wp2
      go_quiet (fail)
      go_wp2
      go_ret
      exact ⟨_, _, rfl, hR.out, fun a ha => ⟨_, _, (by injection ha with ha; exact ha.symm)⟩, _, rfl⟩
set_option maxHeartbeats 1000000 in
theorem All_c (B c N : Nat) (gb : Option Nat) (l : List Ver) (w : World) (h : IsCh B c N gb l w) (hN : N ≤ 1000000) :
    Calls Try.prog 13 #[.pointer (some ⟨c, 0, none⟩)] w fun e w' => ∃ v, e = .returned v ∧ RdV v l w' ∧ Below w.heap.size w w' := by
  have HK := Lib.hid (kept_p B c N gb l w h hN)
  have hl := h.le
  clear h
  go_enter Try.func13, Try.ntmps13
  go_wp2_with fail
  refine HK.out.mono ?_
  rintro e w' ⟨ao, cap, rfl, hR, hp, n, rfl⟩
  have HC := Lib.hid (clone_c ao cap l (w.drewN n) (hR.go (bdrN w n)) hp (by omega))
  clear hR hp HK
  go_wp2_with fail
  refine HC.out.mono ?_
  rintro e w2 ⟨v, rfl, hr, hb⟩
  have HR := Lib.hid hr
  have HB : Hid (Below w.heap.size w w2) := (bdrN w n).trans hb
  clear hr hb HC
  go_wp2
  go_ret
  exact ⟨_, rfl, HR.out, HB.out⟩
theorem neqV (a c : Int) (b d : ByteArray) (x y : Bool) (W : World) : (binOp .neq 33 (.agg #[.int .i64 a, .string b, .bool x]) (.agg #[.int .i64 c, .string d, .bool y])).run Try.prog W = .ok (.bool (!decide (a = c ∧ b.data.toList = d.data.toList ∧ x = y))) W := by
  have u9 := Try.underlying9
  have hS : Try.prog.underlying 33 = some (.struct (Try.prog.fieldsOf 33)) := by kernel_rfl
  have hp : Try.prog.stoodInHeld 33 = false := by kernel_rfl
  rw [run_neq_struct, show (10000 : Nat) = 9999 + 1 from rfl, run_equalIn_agg W 9999 33 _ _ hS hp]
  simp only [Program.fieldsOf, Try.underlying33]
  go_simp
  simp only [Lib.toList_data]
  by_cases h1 : a = c <;> by_cases h2 : b.data = d.data <;> by_cases h3 : x = y <;> simp [h1, h2, h3]
set_option maxRecDepth 100000 in
set_option maxHeartbeats 2000000 in
/-- the law's same, of versions that are the same -/
theorem same_c (a1 a2 : Option Addr) (c1 c2 : Nat) (l : List Ver) (w : World) (hA : RdV (.slice a1 l.length c1) l w) (hB : RdV (.slice a2 l.length c2) l w) (hm : l.length ≤ 1000000) :
    Calls Try.prog 12 #[.slice a1 l.length c1, .slice a2 l.length c2] w fun e w' => e = .returned (.bool true) ∧ Below w.heap.size w w' := by
  have HA := Lib.hid hA
  have HB := Lib.hid hB
  clear hA hB
  go_enter Try.func12, Try.ntmps12
  go_wp2
  go_loopw [14] (fun v wr => ∃ j : Nat, j ≤ l.length ∧ v = .int .i64 j ∧ Hid (Below w.heap.size w wr)) (fun v _ => l.length - (intOf v).toNat)
  case atStart => exact ⟨0, by omega, rfl, Lib.hid (Below.refl _ _)⟩
  case round =>
    obtain ⟨j, hj, rfl, HBW⟩ := hrel
    by_cases hlt : j < l.length
    · obtain ⟨g1, o1, rfl, hg1, hat1⟩ := rdv_at (HA.out.go HBW.out) (by omega)
      obtain ⟨g2, o2, rfl, hg2, hat2⟩ := rdv_at (HB.out.go HBW.out) (by omega)
      obtain ⟨p0, p1, p2⟩ := hat1 j hlt
      obtain ⟨q0, q1, q2⟩ := hat2 j hlt
      have hj0 : (0 : Int) ≤ (j : Int) := by omega
      have hjl : (j : Int) < (l.length : Int) := by omega
      clear hat1 hat2
      obtain ⟨⟨x1, x2, x3⟩, hx⟩ : ∃ x : Ver, l[j] = x := ⟨_, rfl⟩
      rw [hx] at p0 p1 p2 q0 q1 q2
      simp only at p0 p1 p2 q0 q1 q2
      clear hx
      have hN : ∀ W : World, (binOp .neq 33 (.agg #[.int .i64 x1, .string x2, .bool x3]) (.agg #[.int .i64 x1, .string x2, .bool x3])).run Try.prog W = .ok (.bool false) W := fun W => by rw [neqV]; simp
      obtain ⟨W1, hW1, hk1, hb1⟩ := new3 wr (.int .i64 x1) (.string x2) (.bool x3) 27
      have HB1 : Hid (Below w.heap.size w W1) := HBW.out.trans (hb1.mono HBW.out.size)
      obtain ⟨d0, d1, d2⟩ := cells3 hk1
      have r0 : W1.cell? ⟨g1, o1 + j * 3, none⟩ = some (.int .i64 x1) := (hb1.cell (p := ⟨g1, o1 + j * 3, none⟩) hg1).trans p0
      have r1 : W1.cell? ⟨g1, o1 + j * 3 + 1, none⟩ = some (.string x2) := (hb1.cell (p := ⟨g1, o1 + j * 3 + 1, none⟩) hg1).trans p1
      have r2 : W1.cell? ⟨g1, o1 + j * 3 + 2, none⟩ = some (.bool x3) := (hb1.cell (p := ⟨g1, o1 + j * 3 + 2, none⟩) hg1).trans p2
      have HW1 := Lib.hid hW1
      have hng : g1 ≠ wr.heap.size := by omega
      have hng2 : g2 ≠ wr.heap.size := by omega
      clear hW1 hk1 hb1
      go_wp2_with fail
      rw [← HW1.out]
      go_quiet (fail)
      go_wp2
      go_roundw
      case rel => exact ⟨j + 1, by omega, by go_num, Lib.hid (HB1.out.trans ((bdrN W1 _).mono HB1.out.size))⟩
      case measure => simp [intOf]; omega
    · have hjl : ¬ (j : Int) < (l.length : Int) := by omega
      go_wp2
      go_ret
      exact ⟨rfl, HBW.out⟩
end Go.Proofs.Ytfilammedofdoaa.Cn
