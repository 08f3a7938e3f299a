/- The contract of package head's Parse: for every text of at most a thousand bytes and any limits; where the library's variables lie. -/
import Derived.Test.YtkblggpnghdnmaaGreatDoorHdEnds
namespace Go.Proofs.YtkblggpnghdnmaaGreatDoor.Hd
open Go.RowKit Ch
set_option linter.unusedSimpArgs false
set_option linter.unusedVariables false

theorem bel_drew (W : World) : Below W.heap.size W W.drew := ⟨rfl, rfl, rfl, Nat.le_refl _, fun _ _ => rfl⟩
theorem ErT.gb {w w' : World} {g : Nat} (h : ErT w) (hb : w.grownBy w' (some g)) (hg : g ≠ 0) : ErT w' := by
  have hl := World.block_lt_of_cell? w _ h
  exact (World.cell?_of_block (hb.block _ hl (fun e => hg (by injection e with e; exact e.symm)))).trans h
abbrev clmp (n lo hi : Int) : Int := min (max n lo) hi
def PaQ (q : Except Int (FirT × List FldL × Nat)) (w : World) (e : Ending) (w' : World) : Prop := match q with
  | .ok x => ∃ ao cp, e = .returned (.tuple #[.agg #[.string (mkS x.1.1), .string (mkS x.1.2.1), .int .i64 x.1.2.2, .slice ao x.2.1.length cp], .int .i64 (x.2.2 : Int), .int .i64 0]) ∧ OwL w.heap.size (.slice ao x.2.1.length cp) x.2.1 w' ∧ Below w.heap.size w w'
  | .error st => e = .returned (.tuple #[.agg #[.string ⟨#[]⟩, .string ⟨#[]⟩, .int .i64 0, .slice none 0 0], .int .i64 0, .int .i64 st]) ∧ Below w.heap.size w w'
set_option maxRecDepth 100000 in
set_option maxHeartbeats 800000 in
theorem par_e (s : ByteArray) (a b c a' b' c' st : Int) (w : World) (hM : Mx w) (hE : ErT w) (h0 : (st != 0) = true) (h1 : (st == 0) = false)
    (HRT : Hid (∀ W : World, Calls Tryz.prog 15 #[.agg #[.int .i64 a, .int .i64 b, .int .i64 c]] W fun e w' => e = .returned (.agg #[.int .i64 a', .int .i64 b', .int .i64 c']) ∧ Below W.heap.size W w'))
    (HHG : Hid (∀ g W, RdB g s 0 0 a' b' c' W → Mx W → g ≠ 1 → Calls Tryz.prog 22 #[.pointer (some ⟨g, 0, none⟩)] W fun e w' => ∃ k ln n, e = .returned (.tuple #[.agg #[.string ⟨#[]⟩, .string ⟨#[]⟩, .int .i64 0, .slice none 0 0], fltV n st]) ∧ RdB g s k ln a' b' c' w' ∧ W.grownBy w' (some g))) :
    Calls Tryz.prog 20 #[.string s, .agg #[.int .i64 a, .int .i64 b, .int .i64 c]] w fun e w' => e = .returned (.tuple #[.agg #[.string ⟨#[]⟩, .string ⟨#[]⟩, .int .i64 0, .slice none 0 0], .int .i64 0, .int .i64 st]) ∧ Below w.heap.size w w' := by
  have hml := hM.lt
  have hel := World.block_lt_of_cell? w _ hE
  have HD : Hid (∃ W0, W0 = (w.alloc (.cells #[.int .i64 a, .int .i64 b, .int .i64 c] 27)).alloc (.cells #[.string ⟨#[]⟩, .string ⟨#[]⟩, .int .i64 0, .slice none 0 0] 35) ∧ W0.heap[w.heap.size]? = some (.cells #[.int .i64 a, .int .i64 b, .int .i64 c] 27 (0, 0)) ∧ W0.heap[w.heap.size + 1]? = some (.cells #[.string ⟨#[]⟩, .string ⟨#[]⟩, .int .i64 0, .slice none 0 0] 35 (0, 0)) ∧ Below w.heap.size w W0 ∧ W0.heap.size = w.heap.size + 2) := by
    refine ⟨_, rfl, ?_, ?_, ((Below.refl _ _).alloc (Nat.le_refl _) _).alloc (by simp) _, by simp⟩
    · have hb := (Below.refl (w.heap.size + 1) (w.alloc (.cells #[.int .i64 a, .int .i64 b, .int .i64 c] 27))).alloc (by simp) (.cells #[.string ⟨#[]⟩, .string ⟨#[]⟩, .int .i64 0, .slice none 0 0] 35)
      exact (hb.block _ (by omega)).trans (heap_alloc_new w _)
    · have := heap_alloc_new (w.alloc (.cells #[.int .i64 a, .int .i64 b, .int .i64 c] 27)) (.cells #[.string ⟨#[]⟩, .string ⟨#[]⟩, .int .i64 0, .slice none 0 0] 35)
      simpa using this
  obtain ⟨W0, hW0, hL0, hT0, hB0, hz0⟩ := HD.out
  have HWE := Lib.hid hW0
  have HT0 := Lib.hid hT0
  have HB0 := Lib.hid hB0
  have HM0 := Lib.hid (hM.go hB0)
  have HE0 := Lib.hid (hE.go hB0)
  have l0 := cell_of_row _ _ 0 _ _ _ hL0
  have l1 := cell_of_row _ _ 1 _ _ _ hL0
  have l2 := cell_of_row _ _ 2 _ _ _ hL0
  have HZ0 := Lib.hid hz0
  clear HD hW0 hT0 hB0 hL0 hz0 hM hE
  go_enter Tryz.func20, Tryz.ntmps20
  go_wp2_with fail
  rw [← HWE.out]
  (with_reducible refine (HRT.out _).mono ?_)
  rintro e w1 ⟨rfl, hb1⟩
  have HT1 : Hid (w1.heap[w.heap.size + 1]? = some (.cells #[.string ⟨#[]⟩, .string ⟨#[]⟩, .int .i64 0, .slice none 0 0] 35 (0, 0))) := (hb1.block _ (by rw [HZ0.out]; omega)).trans HT0.out
  have HB1 : Hid (Below w.heap.size w w1) := HB0.out.trans (hb1.mono HB0.out.size)
  have HM1 := Lib.hid (HM0.out.go hb1)
  have HE1 := Lib.hid (HE0.out.go hb1)
  have hs1 : w.heap.size + 2 ≤ w1.heap.size := by have := hb1.size; rw [HZ0.out] at this; exact this
  clear hb1 l0 l1 l2
  have hb2 : Below w1.heap.size w1 (w1.alloc (.cells #[.string s, .int .i64 0, .int .i64 0, .int .i64 a', .int .i64 b', .int .i64 c'] 55)) := (Below.refl _ _).alloc (Nat.le_refl _) _
  have HR2 : Hid (RdB w1.heap.size s 0 0 a' b' c' (w1.alloc (.cells #[.string s, .int .i64 0, .int .i64 0, .int .i64 a', .int .i64 b', .int .i64 c'] 55))) := heap_alloc_new w1 _
  have HT2 : Hid ((w1.alloc (.cells #[.string s, .int .i64 0, .int .i64 0, .int .i64 a', .int .i64 b', .int .i64 c'] 55)).heap[w.heap.size + 1]? = some (.cells #[.string ⟨#[]⟩, .string ⟨#[]⟩, .int .i64 0, .slice none 0 0] 35 (0, 0))) := (hb2.block _ (by omega)).trans HT1.out
  have HB2 : Hid (Below w.heap.size w (w1.alloc (.cells #[.string s, .int .i64 0, .int .i64 0, .int .i64 a', .int .i64 b', .int .i64 c'] 55))) := HB1.out.trans (hb2.mono HB1.out.size)
  have HE2 := Lib.hid (HE1.out.go hb2)
  have HHD := Lib.hid (HHG.out w1.heap.size _ HR2.out (HM1.out.go hb2) (by omega))
  have hz2 : ∀ o, (w1.alloc o).heap.size = w1.heap.size + 1 := fun o => by simp
  clear hb2
  go_wp2_with fail
  (with_reducible refine HHD.out.mono ?_)
  rintro e w3 ⟨k, ln, n, rfl, hR3, hG3⟩
  have hs3 : w1.heap.size < w3.heap.size := by have := hG3.size; rw [hz2] at this; omega
  have hb4 : Below w3.heap.size w3 (w3.alloc (.cells #[.string ⟨#[]⟩, .string ⟨#[]⟩, .int .i64 0, .slice none 0 0] 35)) := (Below.refl _ _).alloc (Nat.le_refl _) _
  have HT4 : Hid ((w3.alloc (.cells #[.string ⟨#[]⟩, .string ⟨#[]⟩, .int .i64 0, .slice none 0 0] 35)).heap[w.heap.size + 1]? = some (.cells #[.string ⟨#[]⟩, .string ⟨#[]⟩, .int .i64 0, .slice none 0 0] 35 (0, 0))) := (hb4.block _ (by omega)).trans ((hG3.block _ (by rw [hz2]; omega) (fun e => by injection e with e; omega)).trans HT2.out)
  have HE4 := Lib.hid ((HE2.out.gb hG3 (by omega)).go hb4)
  have HB3 : Hid (Below w.heap.size w w3) := HB2.out.grown hG3 HB2.out.size (fun k hk => by injection hk with e; omega)
  have HB4 : Hid (Below w.heap.size w (w3.alloc (.cells #[.string ⟨#[]⟩, .string ⟨#[]⟩, .int .i64 0, .slice none 0 0] 35))) := HB3.out.trans (hb4.mono HB3.out.size)
  have hz4 : ∀ o, (w3.alloc o).heap.size = w3.heap.size + 1 := fun o => by simp
  have HTL := Lib.hid (told_flt n st _ HE4.out)
  clear hR3 hG3 hb4 HHD
  go_wp2_with fail
  (with_reducible refine HTL.out.mono ?_)
  rintro e w5 ⟨rfl, hb5⟩
  have HT5 : Hid (w5.heap[w.heap.size + 1]? = some (.cells #[.string ⟨#[]⟩, .string ⟨#[]⟩, .int .i64 0, .slice none 0 0] 35 (0, 0))) := (hb5.block _ (by rw [hz4]; omega)).trans HT4.out
  have HB5 : Hid (Below w.heap.size w w5) := HB4.out.trans (hb5.mono HB4.out.size)
  clear hb5 HT4 HB4 HTL
  have c0 := cell_of_row _ _ 0 _ _ _ HT5.out
  have c1 := cell_of_row _ _ 1 _ _ _ HT5.out
  have c2 := cell_of_row _ _ 2 _ _ _ HT5.out
  have c3 := cell_of_row _ _ 3 _ _ _ HT5.out
  have z0 := frz2 HT5.out 0
  have z1 := frz2 HT5.out 1
  have z2 := frz2 HT5.out 2
  have z3 := frz2 HT5.out 3
  have HH := Lib.hid (set4 HT5.out (.string ⟨#[]⟩) (.string ⟨#[]⟩) (.int .i64 0) (.slice none 0 0))
  have HHB := Lib.hid (bel4 HB5.out (Nat.le_succ w.heap.size) (.string ⟨#[]⟩) (.string ⟨#[]⟩) (.int .i64 0) (.slice none 0 0))
  go_wp2
  have d0 := cell_of_row _ _ 0 _ _ _ HH.out
  have d1 := cell_of_row _ _ 1 _ _ _ HH.out
  have d2 := cell_of_row _ _ 2 _ _ _ HH.out
  have d3 := cell_of_row _ _ 3 _ _ _ HH.out
  clear c0 c1 c2 c3 z0 z1 z2 z3
  (with_reducible refine bodyPost_ret (v := .tuple #[.agg #[.string ⟨#[]⟩, .string ⟨#[]⟩, .int .i64 0, .slice none 0 0], .int .i64 0, .int .i64 st]) (by simp [results, Tryz.results20, go_sem, d0, d1, d2, d3]) rfl ⟨rfl, HHB.out⟩)
set_option maxRecDepth 100000 in
set_option maxHeartbeats 1600000 in
theorem par_o (s pm pt : ByteArray) (a b c a' b' c' mn : Int) (k nn : Nat) (fs : List FldL) (w : World) (hM : Mx w)
    (HRT : Hid (∀ W : World, Calls Tryz.prog 15 #[.agg #[.int .i64 a, .int .i64 b, .int .i64 c]] W fun e w' => e = .returned (.agg #[.int .i64 a', .int .i64 b', .int .i64 c']) ∧ Below W.heap.size W w'))
    (HHG : Hid (∀ g W, RdB g s 0 0 a' b' c' W → Mx W → g ≠ 1 → Calls Tryz.prog 22 #[.pointer (some ⟨g, 0, none⟩)] W fun e w' => ∃ ao cp ln, e = .returned (.tuple #[.agg #[.string pm, .string pt, .int .i64 mn, .slice ao nn cp], .nilIface]) ∧ OwL W.heap.size (.slice ao nn cp) fs w' ∧ RdB g s k ln a' b' c' w' ∧ W.grownBy w' (some g))) :
    Calls Tryz.prog 20 #[.string s, .agg #[.int .i64 a, .int .i64 b, .int .i64 c]] w fun e w' => ∃ ao cp, e = .returned (.tuple #[.agg #[.string pm, .string pt, .int .i64 mn, .slice ao nn cp], .int .i64 (k : Int), .int .i64 0]) ∧ OwL w.heap.size (.slice ao nn cp) fs w' ∧ Below w.heap.size w w' := by
  have hml := hM.lt
  have HD : Hid (∃ W0, W0 = (w.alloc (.cells #[.int .i64 a, .int .i64 b, .int .i64 c] 27)).alloc (.cells #[.string ⟨#[]⟩, .string ⟨#[]⟩, .int .i64 0, .slice none 0 0] 35) ∧ W0.heap[w.heap.size]? = some (.cells #[.int .i64 a, .int .i64 b, .int .i64 c] 27 (0, 0)) ∧ W0.heap[w.heap.size + 1]? = some (.cells #[.string ⟨#[]⟩, .string ⟨#[]⟩, .int .i64 0, .slice none 0 0] 35 (0, 0)) ∧ Below w.heap.size w W0 ∧ W0.heap.size = w.heap.size + 2) := by
    refine ⟨_, rfl, ?_, ?_, ((Below.refl _ _).alloc (Nat.le_refl _) _).alloc (by simp) _, by simp⟩
    · have hb := (Below.refl (w.heap.size + 1) (w.alloc (.cells #[.int .i64 a, .int .i64 b, .int .i64 c] 27))).alloc (by simp) (.cells #[.string ⟨#[]⟩, .string ⟨#[]⟩, .int .i64 0, .slice none 0 0] 35)
      exact (hb.block _ (by omega)).trans (heap_alloc_new w _)
    · have := heap_alloc_new (w.alloc (.cells #[.int .i64 a, .int .i64 b, .int .i64 c] 27)) (.cells #[.string ⟨#[]⟩, .string ⟨#[]⟩, .int .i64 0, .slice none 0 0] 35)
      simpa using this
  obtain ⟨W0, hW0, hL0, hT0, hB0, hz0⟩ := HD.out
  have HWE := Lib.hid hW0
  have HT0 := Lib.hid hT0
  have HB0 := Lib.hid hB0
  have HM0 := Lib.hid (hM.go hB0)
  have l0 := cell_of_row _ _ 0 _ _ _ hL0
  have l1 := cell_of_row _ _ 1 _ _ _ hL0
  have l2 := cell_of_row _ _ 2 _ _ _ hL0
  have HZ0 := Lib.hid hz0
  clear HD hW0 hT0 hB0 hL0 hz0 hM
  go_enter Tryz.func20, Tryz.ntmps20
  go_wp2_with fail
  rw [← HWE.out]
  (with_reducible refine (HRT.out _).mono ?_)
  rintro e w1 ⟨rfl, hb1⟩
  have HT1 : Hid (w1.heap[w.heap.size + 1]? = some (.cells #[.string ⟨#[]⟩, .string ⟨#[]⟩, .int .i64 0, .slice none 0 0] 35 (0, 0))) := (hb1.block _ (by rw [HZ0.out]; omega)).trans HT0.out
  have HB1 : Hid (Below w.heap.size w w1) := HB0.out.trans (hb1.mono HB0.out.size)
  have HM1 := Lib.hid (HM0.out.go hb1)
  have hs1 : w.heap.size + 2 ≤ w1.heap.size := by have := hb1.size; rw [HZ0.out] at this; exact this
  clear hb1 l0 l1 l2
  have hb2 : Below w1.heap.size w1 (w1.alloc (.cells #[.string s, .int .i64 0, .int .i64 0, .int .i64 a', .int .i64 b', .int .i64 c'] 55)) := (Below.refl _ _).alloc (Nat.le_refl _) _
  have HR2 : Hid (RdB w1.heap.size s 0 0 a' b' c' (w1.alloc (.cells #[.string s, .int .i64 0, .int .i64 0, .int .i64 a', .int .i64 b', .int .i64 c'] 55))) := heap_alloc_new w1 _
  have HT2 : Hid ((w1.alloc (.cells #[.string s, .int .i64 0, .int .i64 0, .int .i64 a', .int .i64 b', .int .i64 c'] 55)).heap[w.heap.size + 1]? = some (.cells #[.string ⟨#[]⟩, .string ⟨#[]⟩, .int .i64 0, .slice none 0 0] 35 (0, 0))) := (hb2.block _ (by omega)).trans HT1.out
  have HB2 : Hid (Below w.heap.size w (w1.alloc (.cells #[.string s, .int .i64 0, .int .i64 0, .int .i64 a', .int .i64 b', .int .i64 c'] 55))) := HB1.out.trans (hb2.mono HB1.out.size)
  have HHD := Lib.hid (HHG.out w1.heap.size _ HR2.out (HM1.out.go hb2) (by omega))
  have hz2 : ∀ o, (w1.alloc o).heap.size = w1.heap.size + 1 := fun o => by simp
  clear hb2
  go_wp2_with fail
  (with_reducible refine HHD.out.mono ?_)
  rintro e w3 ⟨ao, cp, ln, rfl, hO3, hR3, hG3⟩
  rw [hz2] at hO3
  have hs3 : w1.heap.size < w3.heap.size := by have := hG3.size; rw [hz2] at this; omega
  have hb4 : Below w3.heap.size w3 (w3.alloc (.cells #[.string pm, .string pt, .int .i64 mn, .slice ao nn cp] 35)) := (Below.refl _ _).alloc (Nat.le_refl _) _
  have HT4 : Hid ((w3.alloc (.cells #[.string pm, .string pt, .int .i64 mn, .slice ao nn cp] 35)).heap[w.heap.size + 1]? = some (.cells #[.string ⟨#[]⟩, .string ⟨#[]⟩, .int .i64 0, .slice none 0 0] 35 (0, 0))) := (hb4.block _ (by omega)).trans ((hG3.block _ (by rw [hz2]; omega) (fun e => by injection e with e; omega)).trans HT2.out)
  have HU4 := Lib.hid (heap_alloc_new w3 (.cells #[.string pm, .string pt, .int .i64 mn, .slice ao nn cp] 35))
  have HO4 := Lib.hid (hO3.go hb4)
  have HR4 := Lib.hid (hR3.go hb4)
  have HB3 : Hid (Below w.heap.size w w3) := HB2.out.grown hG3 HB2.out.size (fun k hk => by injection hk with e; omega)
  have HB4 : Hid (Below w.heap.size w (w3.alloc (.cells #[.string pm, .string pt, .int .i64 mn, .slice ao nn cp] 35))) := HB3.out.trans (hb4.mono HB3.out.size)
  have hz4 : ∀ o, (w3.alloc o).heap.size = w3.heap.size + 1 := fun o => by simp
  clear hO3 hR3 hG3 hb4 HHD
  go_wp2_with fail
  (with_reducible refine (told_nil _).mono ?_)
  rintro e w5 ⟨rfl, hb5⟩
  have HT5 : Hid (w5.heap[w.heap.size + 1]? = some (.cells #[.string ⟨#[]⟩, .string ⟨#[]⟩, .int .i64 0, .slice none 0 0] 35 (0, 0))) := (hb5.block _ (by rw [hz4]; omega)).trans HT4.out
  have HU5 : Hid (w5.heap[w3.heap.size]? = some (.cells #[.string pm, .string pt, .int .i64 mn, .slice ao nn cp] 35 (0, 0))) := (hb5.block _ (by rw [hz4]; omega)).trans HU4.out
  have HO5 := Lib.hid (HO4.out.go hb5)
  have HR5 := Lib.hid (HR4.out.go hb5)
  have HB5 : Hid (Below w.heap.size w w5) := HB4.out.trans (hb5.mono HB4.out.size)
  clear hb5 HT4 HU4 HO4 HR4 HB4
  have m0 := cell_of_row _ _ 0 _ _ _ HU5.out
  have m1 := cell_of_row _ _ 1 _ _ _ HU5.out
  have m2 := cell_of_row _ _ 2 _ _ _ HU5.out
  have m3 := cell_of_row _ _ 3 _ _ _ HU5.out
  have r1 := cell_of_row _ _ 1 _ _ _ HR5.out
  have c0 := cell_of_row _ _ 0 _ _ _ HT5.out
  have c1 := cell_of_row _ _ 1 _ _ _ HT5.out
  have c2 := cell_of_row _ _ 2 _ _ _ HT5.out
  have c3 := cell_of_row _ _ 3 _ _ _ HT5.out
  have z0 := frz2 HT5.out 0
  have z1 := frz2 HT5.out 1
  have z2 := frz2 HT5.out 2
  have z3 := frz2 HT5.out 3
  have HH := Lib.hid (set4 HT5.out (.string pm) (.string pt) (.int .i64 mn) (.slice ao nn cp))
  have HHU := Lib.hid (ne4 (g := w.heap.size + 1) HU5.out (by omega) (.string pm) (.string pt) (.int .i64 mn) (.slice ao nn cp))
  have HHR := Lib.hid (ne4 (g := w.heap.size + 1) HR5.out (by omega) (.string pm) (.string pt) (.int .i64 mn) (.slice ao nn cp))
  have HGS := Lib.hid (gb_trans (gb_trans (gb_trans (gb_set w5 (w.heap.size + 1) 0 (.string pm)) (gb_set _ (w.heap.size + 1) 1 (.string pt))) (gb_set _ (w.heap.size + 1) 2 (.int .i64 mn))) (gb_set _ (w.heap.size + 1) 3 (.slice ao nn cp)))
  have HOS := Lib.hid (World.ownsRow.mono (base' := w.heap.size) ((HO5.out.gb HGS.out (by omega)).go (bel_drew _)) (by omega))
  have hn1 : w.heap.size + 1 ≠ w3.heap.size := by omega
  have hn2 : w.heap.size + 1 ≠ w1.heap.size := by omega
  have HKA : Hid ((w5.drew).cell? ⟨w3.heap.size, 0, none⟩ = some (.string pm) ∧ (w5.drew).cell? ⟨w3.heap.size, 1, none⟩ = some (.string pt) ∧ (w5.drew).cell? ⟨w3.heap.size, 2, none⟩ = some (.int .i64 mn) ∧ (w5.drew).cell? ⟨w3.heap.size, 3, none⟩ = some (.slice ao nn cp) ∧ (w5.drew).cell? ⟨w1.heap.size, 1, none⟩ = some (.int .i64 (k : Int)) ∧ (w5.drew).cell? ⟨w.heap.size + 1, 0, none⟩ = some (cg (w5.drew) ⟨w.heap.size + 1, 0, none⟩) ∧ (w5.drew).cell? ⟨w.heap.size + 1, 1, none⟩ = some (cg (w5.drew) ⟨w.heap.size + 1, 1, none⟩) ∧ (w5.drew).cell? ⟨w.heap.size + 1, 2, none⟩ = some (cg (w5.drew) ⟨w.heap.size + 1, 2, none⟩) ∧ (w5.drew).cell? ⟨w.heap.size + 1, 3, none⟩ = some (cg (w5.drew) ⟨w.heap.size + 1, 3, none⟩) ∧ (w5.drew).frozen? ⟨w.heap.size + 1, 0, none⟩ = false ∧ (w5.drew).frozen? ⟨w.heap.size + 1, 1, none⟩ = false ∧ (w5.drew).frozen? ⟨w.heap.size + 1, 2, none⟩ = false ∧ (w5.drew).frozen? ⟨w.heap.size + 1, 3, none⟩ = false) := ⟨m0, m1, m2, m3, r1, sk4_of HT5.out⟩
  have HKB : Hid ((((((w5.setCell ⟨w.heap.size + 1, 0, none⟩ (.string pm)).setCell ⟨w.heap.size + 1, 1, none⟩ (.string pt)).setCell ⟨w.heap.size + 1, 2, none⟩ (.int .i64 mn)).setCell ⟨w.heap.size + 1, 3, none⟩ (.slice ao nn cp)).drew).cell? ⟨w3.heap.size, 0, none⟩ = some (.string pm) ∧ (((((w5.setCell ⟨w.heap.size + 1, 0, none⟩ (.string pm)).setCell ⟨w.heap.size + 1, 1, none⟩ (.string pt)).setCell ⟨w.heap.size + 1, 2, none⟩ (.int .i64 mn)).setCell ⟨w.heap.size + 1, 3, none⟩ (.slice ao nn cp)).drew).cell? ⟨w3.heap.size, 1, none⟩ = some (.string pt) ∧ (((((w5.setCell ⟨w.heap.size + 1, 0, none⟩ (.string pm)).setCell ⟨w.heap.size + 1, 1, none⟩ (.string pt)).setCell ⟨w.heap.size + 1, 2, none⟩ (.int .i64 mn)).setCell ⟨w.heap.size + 1, 3, none⟩ (.slice ao nn cp)).drew).cell? ⟨w3.heap.size, 2, none⟩ = some (.int .i64 mn) ∧ (((((w5.setCell ⟨w.heap.size + 1, 0, none⟩ (.string pm)).setCell ⟨w.heap.size + 1, 1, none⟩ (.string pt)).setCell ⟨w.heap.size + 1, 2, none⟩ (.int .i64 mn)).setCell ⟨w.heap.size + 1, 3, none⟩ (.slice ao nn cp)).drew).cell? ⟨w3.heap.size, 3, none⟩ = some (.slice ao nn cp) ∧ (((((w5.setCell ⟨w.heap.size + 1, 0, none⟩ (.string pm)).setCell ⟨w.heap.size + 1, 1, none⟩ (.string pt)).setCell ⟨w.heap.size + 1, 2, none⟩ (.int .i64 mn)).setCell ⟨w.heap.size + 1, 3, none⟩ (.slice ao nn cp)).drew).cell? ⟨w1.heap.size, 1, none⟩ = some (.int .i64 (k : Int)) ∧ (((((w5.setCell ⟨w.heap.size + 1, 0, none⟩ (.string pm)).setCell ⟨w.heap.size + 1, 1, none⟩ (.string pt)).setCell ⟨w.heap.size + 1, 2, none⟩ (.int .i64 mn)).setCell ⟨w.heap.size + 1, 3, none⟩ (.slice ao nn cp)).drew).cell? ⟨w.heap.size + 1, 0, none⟩ = some (cg (((((w5.setCell ⟨w.heap.size + 1, 0, none⟩ (.string pm)).setCell ⟨w.heap.size + 1, 1, none⟩ (.string pt)).setCell ⟨w.heap.size + 1, 2, none⟩ (.int .i64 mn)).setCell ⟨w.heap.size + 1, 3, none⟩ (.slice ao nn cp)).drew) ⟨w.heap.size + 1, 0, none⟩) ∧ (((((w5.setCell ⟨w.heap.size + 1, 0, none⟩ (.string pm)).setCell ⟨w.heap.size + 1, 1, none⟩ (.string pt)).setCell ⟨w.heap.size + 1, 2, none⟩ (.int .i64 mn)).setCell ⟨w.heap.size + 1, 3, none⟩ (.slice ao nn cp)).drew).cell? ⟨w.heap.size + 1, 1, none⟩ = some (cg (((((w5.setCell ⟨w.heap.size + 1, 0, none⟩ (.string pm)).setCell ⟨w.heap.size + 1, 1, none⟩ (.string pt)).setCell ⟨w.heap.size + 1, 2, none⟩ (.int .i64 mn)).setCell ⟨w.heap.size + 1, 3, none⟩ (.slice ao nn cp)).drew) ⟨w.heap.size + 1, 1, none⟩) ∧ (((((w5.setCell ⟨w.heap.size + 1, 0, none⟩ (.string pm)).setCell ⟨w.heap.size + 1, 1, none⟩ (.string pt)).setCell ⟨w.heap.size + 1, 2, none⟩ (.int .i64 mn)).setCell ⟨w.heap.size + 1, 3, none⟩ (.slice ao nn cp)).drew).cell? ⟨w.heap.size + 1, 2, none⟩ = some (cg (((((w5.setCell ⟨w.heap.size + 1, 0, none⟩ (.string pm)).setCell ⟨w.heap.size + 1, 1, none⟩ (.string pt)).setCell ⟨w.heap.size + 1, 2, none⟩ (.int .i64 mn)).setCell ⟨w.heap.size + 1, 3, none⟩ (.slice ao nn cp)).drew) ⟨w.heap.size + 1, 2, none⟩) ∧ (((((w5.setCell ⟨w.heap.size + 1, 0, none⟩ (.string pm)).setCell ⟨w.heap.size + 1, 1, none⟩ (.string pt)).setCell ⟨w.heap.size + 1, 2, none⟩ (.int .i64 mn)).setCell ⟨w.heap.size + 1, 3, none⟩ (.slice ao nn cp)).drew).cell? ⟨w.heap.size + 1, 3, none⟩ = some (cg (((((w5.setCell ⟨w.heap.size + 1, 0, none⟩ (.string pm)).setCell ⟨w.heap.size + 1, 1, none⟩ (.string pt)).setCell ⟨w.heap.size + 1, 2, none⟩ (.int .i64 mn)).setCell ⟨w.heap.size + 1, 3, none⟩ (.slice ao nn cp)).drew) ⟨w.heap.size + 1, 3, none⟩) ∧ (((((w5.setCell ⟨w.heap.size + 1, 0, none⟩ (.string pm)).setCell ⟨w.heap.size + 1, 1, none⟩ (.string pt)).setCell ⟨w.heap.size + 1, 2, none⟩ (.int .i64 mn)).setCell ⟨w.heap.size + 1, 3, none⟩ (.slice ao nn cp)).drew).frozen? ⟨w.heap.size + 1, 0, none⟩ = false ∧ (((((w5.setCell ⟨w.heap.size + 1, 0, none⟩ (.string pm)).setCell ⟨w.heap.size + 1, 1, none⟩ (.string pt)).setCell ⟨w.heap.size + 1, 2, none⟩ (.int .i64 mn)).setCell ⟨w.heap.size + 1, 3, none⟩ (.slice ao nn cp)).drew).frozen? ⟨w.heap.size + 1, 1, none⟩ = false ∧ (((((w5.setCell ⟨w.heap.size + 1, 0, none⟩ (.string pm)).setCell ⟨w.heap.size + 1, 1, none⟩ (.string pt)).setCell ⟨w.heap.size + 1, 2, none⟩ (.int .i64 mn)).setCell ⟨w.heap.size + 1, 3, none⟩ (.slice ao nn cp)).drew).frozen? ⟨w.heap.size + 1, 2, none⟩ = false ∧ (((((w5.setCell ⟨w.heap.size + 1, 0, none⟩ (.string pm)).setCell ⟨w.heap.size + 1, 1, none⟩ (.string pt)).setCell ⟨w.heap.size + 1, 2, none⟩ (.int .i64 mn)).setCell ⟨w.heap.size + 1, 3, none⟩ (.slice ao nn cp)).drew).frozen? ⟨w.heap.size + 1, 3, none⟩ = false) := ⟨cell_of_row _ _ 0 _ _ _ HHU.out, cell_of_row _ _ 1 _ _ _ HHU.out, cell_of_row _ _ 2 _ _ _ HHU.out, cell_of_row _ _ 3 _ _ _ HHU.out, cell_of_row _ _ 1 _ _ _ HHR.out, sk4_of HH.out⟩
  go_wp2_with fail
  go_region_held3 (fun V => V.cell? ⟨w3.heap.size, 0, none⟩ = some (.string pm) ∧ V.cell? ⟨w3.heap.size, 1, none⟩ = some (.string pt) ∧ V.cell? ⟨w3.heap.size, 2, none⟩ = some (.int .i64 mn) ∧ V.cell? ⟨w3.heap.size, 3, none⟩ = some (.slice ao nn cp) ∧ V.cell? ⟨w1.heap.size, 1, none⟩ = some (.int .i64 (k : Int)) ∧ V.cell? ⟨w.heap.size + 1, 0, none⟩ = some (cg V ⟨w.heap.size + 1, 0, none⟩) ∧ V.cell? ⟨w.heap.size + 1, 1, none⟩ = some (cg V ⟨w.heap.size + 1, 1, none⟩) ∧ V.cell? ⟨w.heap.size + 1, 2, none⟩ = some (cg V ⟨w.heap.size + 1, 2, none⟩) ∧ V.cell? ⟨w.heap.size + 1, 3, none⟩ = some (cg V ⟨w.heap.size + 1, 3, none⟩) ∧ V.frozen? ⟨w.heap.size + 1, 0, none⟩ = false ∧ V.frozen? ⟨w.heap.size + 1, 1, none⟩ = false ∧ V.frozen? ⟨w.heap.size + 1, 2, none⟩ = false ∧ V.frozen? ⟨w.heap.size + 1, 3, none⟩ = false)
    (first | (with_reducible exact HKA.out) | (with_reducible exact HKB.out))
    (fail)
  have d0 := cell_of_row _ _ 0 _ _ _ HH.out
  have d1 := cell_of_row _ _ 1 _ _ _ HH.out
  have d2 := cell_of_row _ _ 2 _ _ _ HH.out
  have d3 := cell_of_row _ _ 3 _ _ _ HH.out
  clear m0 m1 m2 m3 r1 c0 c1 c2 c3 z0 z1 z2 z3
  go_wp2
  refine bodyPost_ret (v := .tuple #[.agg #[.string pm, .string pt, .int .i64 mn, .slice ao nn cp], .int .i64 (k : Int), .int .i64 0]) (by simp [results, Tryz.results20, go_sem, d0, d1, d2, d3]) rfl ⟨ao, cp, rfl, HOS.out, ?_⟩
  have hbb := bel4 HB5.out (Nat.le_succ w.heap.size) (.string pm) (.string pt) (.int .i64 mn) (.slice ao nn cp)
  exact ⟨hbb.os, hbb.tape, hbb.output, hbb.size, hbb.block⟩
theorem Parse_g (s : ByteArray) (a b c : Int) (w : World) (hM : Mx w) (hE : ErT w) (hs : s.size ≤ 1000) :
    Calls Tryz.prog 20 #[.string s, .agg #[.int .i64 a, .int .i64 b, .int .i64 c]] w (PaQ (hdL s.data.toList (clmp a 16 8192) (clmp b 1 100)) w) := by
  have HRT := Lib.hid (fun W => Right_c a b c W)
  have HH := fun g W h k hg => head_g g s (clmp a 16 8192) (clmp b 1 100) (clmp c 0 1048576) W h k hg hs
  cases hq : hdL s.data.toList (clmp a 16 8192) (clmp b 1 100) with
  | error st =>
    rw [hq] at HH
    have h1 := (hd_st hq).1
    exact par_e s a b c _ _ _ st w hM hE (bne_iff_ne.2 (by omega)) (beq_eq_false_iff_ne.2 (by omega)) HRT (Lib.hid HH)
  | ok x =>
    rw [hq] at HH
    exact par_o s _ _ a b c _ _ _ _ _ _ x.2.1 w hM HRT (Lib.hid HH)
end Go.Proofs.YtkblggpnghdnmaaGreatDoor.Hd
