/- The document's Right of limits; the walk of the statement that a body in chunks is read as it was. -/
import Derived.Test.YteegbcjpganobaaDoorCkCoe
import Derived.Test.YteegbcjpganobaaDoorCkAwk
namespace Go.Proofs.YteegbcjpganobaaDoor.Hd
open Go.RowKit Ch
set_option linter.unusedSimpArgs false
set_option linter.unusedVariables false

set_option maxHeartbeats 1000000 in
theorem near_c (n lo hi : Int) (w : World) (h : lo ≤ hi) : Calls Tryd.prog 17 #[.int .i64 n, .int .i64 lo, .int .i64 hi] w fun e w' => e = .returned (.int .i64 (min (max n lo) hi)) ∧ w = w' := by
  by_cases h1 : n < lo
  · have e : min (max n lo) hi = lo := by omega
    rw [e]
    clear e
    go_enter Tryd.func17, Tryd.ntmps17
    go_wp2
    go_ret
    exact ⟨rfl, rfl⟩
  · by_cases h2 : hi < n
    · have e : min (max n lo) hi = hi := by omega
      rw [e]
      clear e
      go_enter Tryd.func17, Tryd.ntmps17
      go_wp2
      go_ret
      exact ⟨rfl, rfl⟩
    · have e : min (max n lo) hi = n := by omega
      rw [e]
      clear e
      go_enter Tryd.func17, Tryd.ntmps17
      go_wp2
      go_ret
      exact ⟨rfl, rfl⟩
set_option maxRecDepth 100000 in
set_option maxHeartbeats 4000000 in
theorem RightR_c (a b c : Int) (w : World) : Calls Tryd.prog 9 #[.agg #[.int .i64 a, .int .i64 b, .int .i64 c]] w fun e w' => e = .returned (.agg #[.int .i64 (min (max a 16) 8192), .int .i64 (min (max b 1) 100), .int .i64 (min (max c 0) 1048576)]) ∧ Below w.heap.size w w' := by
  have HW := Lib.hid (fun n lo hi W h => near_c n lo hi W h)
  have HD : Hid (∃ W, W = (w.alloc (.cells #[.int .i64 a, .int .i64 b, .int .i64 c] 23)).alloc (.cells #[.int .i64 0, .int .i64 0, .int .i64 0] 23) ∧ W.heap[w.heap.size]? = some (.cells #[.int .i64 a, .int .i64 b, .int .i64 c] 23 (0, 0)) ∧ W.heap[w.heap.size + 1]? = some (.cells #[.int .i64 0, .int .i64 0, .int .i64 0] 23 (0, 0)) ∧ Below w.heap.size w W) := by
    refine ⟨_, rfl, ?_, ?_, ((Below.refl _ _).alloc (Nat.le_refl _) _).alloc (by simp) _⟩
    · have hb := (Below.refl (w.heap.size + 1) (w.alloc (.cells #[.int .i64 a, .int .i64 b, .int .i64 c] 23))).alloc (by simp) (.cells #[.int .i64 0, .int .i64 0, .int .i64 0] 23)
      exact (hb.block _ (by omega)).trans (heap_alloc_new w _)
    · have := heap_alloc_new (w.alloc (.cells #[.int .i64 a, .int .i64 b, .int .i64 c] 23)) (.cells #[.int .i64 0, .int .i64 0, .int .i64 0] 23)
      simpa using this
  obtain ⟨W, hW, h0, h1, hB⟩ := HD.out
  have HWE := Lib.hid hW
  have H0 := Lib.hid h0
  have H1 := Lib.hid h1
  have HB := Lib.hid hB
  have HH := Lib.hid (set3 h1 (.int .i64 (min (max a 16) 8192)) (.int .i64 (min (max b 1) 100)) (.int .i64 (min (max c 0) 1048576)))
  have HH0 : Hid ((((W.setCell ⟨w.heap.size + 1, 0, none⟩ (.int .i64 (min (max a 16) 8192))).setCell ⟨w.heap.size + 1, 1, none⟩ (.int .i64 (min (max b 1) 100))).setCell ⟨w.heap.size + 1, 2, none⟩ (.int .i64 (min (max c 0) 1048576))).heap[w.heap.size]? = some (.cells #[.int .i64 a, .int .i64 b, .int .i64 c] 23 (0, 0))) :=
    set_ne (set_ne (set_ne h0 (by omega) 0 _) (by omega) 1 _) (by omega) 2 _
  clear HD hW h0 h1 hB
  generalize hm1 : min (max a 16) 8192 = m1 at HH HH0 ⊢
  generalize hm2 : min (max b 1) 100 = m2 at HH HH0 ⊢
  generalize hm3 : min (max c 0) 1048576 = m3 at HH HH0 ⊢
  have M1 := Lib.hid hm1
  have M2 := Lib.hid hm2
  have M3 := Lib.hid hm3
  have HW1 : Hid (∀ W, Calls Tryd.prog 17 #[.int .i64 a, .int .i64 16, .int .i64 8192] W fun e w' => e = .returned (.int .i64 m1) ∧ W = w') := fun W => by rw [← M1.out]; exact near_c _ _ _ W (by decide)
  have HW2 : Hid (∀ W, Calls Tryd.prog 17 #[.int .i64 b, .int .i64 1, .int .i64 100] W fun e w' => e = .returned (.int .i64 m2) ∧ W = w') := fun W => by rw [← M2.out]; exact near_c _ _ _ W (by decide)
  have HW3 : Hid (∀ W, Calls Tryd.prog 17 #[.int .i64 c, .int .i64 0, .int .i64 1048576] W fun e w' => e = .returned (.int .i64 m3) ∧ W = w') := fun W => by rw [← M3.out]; exact near_c _ _ _ W (by decide)
  clear hm1 hm2 hm3 HW
  go_enter Tryd.func9, Tryd.ntmps9
  go_wp2_with fail
  rw [← HWE.out]
  clear HWE
  have hgl : w.heap.size < w.heap.size + 1 := Nat.lt_succ_self _
  have hgn : w.heap.size ≠ w.heap.size + 1 := by omega
  have hgm : w.heap.size + 1 ≠ w.heap.size := by omega
  generalize w.heap.size + 1 = g1 at HH HH0 H1 hgl hgn hgm ⊢
  have k0 := cell_of_row _ _ 0 _ _ _ H1.out
  have k1 := cell_of_row _ _ 1 _ _ _ H1.out
  have k2 := cell_of_row _ _ 2 _ _ _ H1.out
  have z0 := frz2 H1.out 0
  have z1 := frz2 H1.out 1
  have z2 := frz2 H1.out 2
  go_region_held3 (fun V => V.cell? ⟨w.heap.size, 0, none⟩ = some (.int .i64 a) ∧ V.cell? ⟨w.heap.size, 1, none⟩ = some (.int .i64 b) ∧ V.cell? ⟨w.heap.size, 2, none⟩ = some (.int .i64 c) ∧ V.cell? ⟨g1, 0, none⟩ = some (cg V ⟨g1, 0, none⟩) ∧ V.cell? ⟨g1, 1, none⟩ = some (cg V ⟨g1, 1, none⟩) ∧ V.cell? ⟨g1, 2, none⟩ = some (cg V ⟨g1, 2, none⟩) ∧ V.frozen? ⟨g1, 0, none⟩ = false ∧ V.frozen? ⟨g1, 1, none⟩ = false ∧ V.frozen? ⟨g1, 2, none⟩ = false)
    (first | exact ⟨cell_of_row _ _ 0 _ _ _ H0.out, cell_of_row _ _ 1 _ _ _ H0.out, cell_of_row _ _ 2 _ _ _ H0.out, sk3_of H1.out⟩ | exact ⟨cell_of_row _ _ 0 _ _ _ HH0.out, cell_of_row _ _ 1 _ _ _ HH0.out, cell_of_row _ _ 2 _ _ _ HH0.out, sk3_of HH.out⟩)
    (first | (go_at_call 17; (with_reducible refine (HW1.out _).mono ?_); rintro e w3 ⟨rfl, rfl⟩) | (go_at_call 17; (with_reducible refine (HW2.out _).mono ?_); rintro e w3 ⟨rfl, rfl⟩) | (go_at_call 17; (with_reducible refine (HW3.out _).mono ?_); rintro e w3 ⟨rfl, rfl⟩))
  have d0 := cell_of_row _ _ 0 _ _ _ HH.out
  have d1 := cell_of_row _ _ 1 _ _ _ HH.out
  have d2 := cell_of_row _ _ 2 _ _ _ HH.out
  clear k0 k1 k2 z0 z1 z2
  go_wp2
  refine bodyPost_ret (v := .agg #[.int .i64 m1, .int .i64 m2, .int .i64 m3]) (by simp [results, Tryd.results9, go_sem, d0, d1, d2]) rfl ⟨rfl, ?_⟩
  have hbb := ((HB.out.setCell (p := ⟨g1, 0, none⟩) (Nat.le_of_lt hgl) (.int .i64 m1)).setCell (p := ⟨g1, 1, none⟩) (Nat.le_of_lt hgl) (.int .i64 m2)).setCell (p := ⟨g1, 2, none⟩) (Nat.le_of_lt hgl) (.int .i64 m3)
  exact ⟨hbb.os, hbb.tape, hbb.output, hbb.size, hbb.block⟩
theorem fld2 (a b c : Int) (W : World) : (Instr.field 23 (.agg #[.int .i64 a, .int .i64 b, .int .i64 c]) 2).run Tryd.prog W = .ok (.int .i64 c) W := by
  kernel_rfl
set_option maxRecDepth 100000 in
set_option maxHeartbeats 1000000 in
theorem backW (a0 a3 s m ev bv : ByteArray) (size la lb lc n st : Int) (c3 : Int) (big : Bool) (w : World) (HM : Hid (Mx w)) (HT : Hid (Nu.Tabs w)) (hz : s.size ≤ 500) (hz2 : m.size ≤ 500) (hz3 : ev.size ≤ 4100)
    (hsh : Hid (∀ W, Calls Tryd.prog 4 #[.string a0] W fun e w' => e = .returned (.string s) ∧ W = w'))
    (hsh2 : Hid (∀ W, Calls Tryd.prog 4 #[.string a3] W fun e w' => e = .returned (.string m) ∧ W = w'))
    (HE : Hid (∀ W, Nu.Tabs W → Calls Tryd.prog 5 #[.string s, .int .i64 size] W fun e w' => e = .returned (.string ev) ∧ Below W.heap.size W w'))
    (HER : Hid (∀ W, Calls Tryd.prog 6 #[.string s, .int .i64 size] W fun e w' => e = .returned (.string ev) ∧ ∃ n, w' = W.drewN n))
    (HP : Hid (∀ W, Mx W → Calls Tryd.prog 7 #[.string (ev ++ m), .agg #[.int .i64 la, .int .i64 lb, .int .i64 lc]] W fun e w' => e = .returned (.tuple #[.string bv, .int .i64 n, .int .i64 st]) ∧ Below W.heap.size W w'))
    (HR : Hid (∀ W, ∃ c1 c2, Calls Tryd.prog 9 #[.agg #[.int .i64 la, .int .i64 lb, .int .i64 lc]] W fun e w' => e = .returned (.agg #[.int .i64 c1, .int .i64 c2, .int .i64 c3]) ∧ Below W.heap.size W w'))
    (hbig : (big = true → c3 < (s.size : Int) ∧ bv = ⟨#[]⟩ ∧ n = 0 ∧ st = 413) ∧ (big = false → ¬ c3 < (s.size : Int) ∧ bv = s ∧ n = (ev.size : Int) ∧ st = 0)) :
    Calls Tryd.prog 3 #[.string a0, .int .i64 size, .agg #[.int .i64 la, .int .i64 lb, .int .i64 lc], .string a3] w fun e w' => e = .returned (.bool true) ∧ Below w.heap.size w w' := by
  have HD : Hid (∃ W0, W0 = w.alloc (.cells #[.int .i64 la, .int .i64 lb, .int .i64 lc] 23) ∧ W0.heap[w.heap.size]? = some (.cells #[.int .i64 la, .int .i64 lb, .int .i64 lc] 23 (0, 0)) ∧ Below w.heap.size w W0) := ⟨_, rfl, heap_alloc_new w _, (Below.refl _ _).alloc (Nat.le_refl _) _⟩
  obtain ⟨W0, hW0, hL0, hB0⟩ := HD.out
  have HWE := Lib.hid hW0
  have HL0 := Lib.hid hL0
  have HB0 := Lib.hid hB0
  have hsz0 : w.heap.size < W0.heap.size := (Array.getElem?_eq_some_iff.1 hL0).1
  clear HD hW0 hL0 hB0
  have hfl := fun x y z W => fld2 x y z W
  cases big with
  | true =>
    obtain ⟨hc3, rfl, rfl, rfl⟩ := hbig.1 rfl
    clear hbig
    go_enter Tryd.func3, Tryd.ntmps3
    go_wp2_with fail
    rw [← HWE.out]
    clear HWE
    (with_reducible refine (hsh.out _).mono ?_)
    rintro e w1 ⟨rfl, hw⟩
    rw [← hw]; clear hw
    go_wp2_with fail
    (with_reducible refine (hsh2.out _).mono ?_)
    rintro e w1 ⟨rfl, hw⟩
    rw [← hw]; clear hw
    go_wp2_with fail
    (with_reducible refine (HE.out _ (HT.out.go HB0.out)).mono ?_)
    rintro e w2 ⟨rfl, hb2⟩
    have HB2 : Hid (Below w.heap.size w w2) := HB0.out.trans (hb2.mono (Nat.le_of_lt hsz0))
    have HL2 : Hid (w2.heap[w.heap.size]? = some (.cells #[.int .i64 la, .int .i64 lb, .int .i64 lc] 23 (0, 0))) := (hb2.block _ hsz0).trans HL0.out
    clear hb2
    go_wp2_with fail
    (with_reducible refine (HER.out _).mono ?_)
    rintro e w3 ⟨rfl, q, rfl⟩
    have HB3 : Hid (Below w.heap.size w (w2.drewN q)) := HB2.out.trans ((bdrN0 w2 q).mono HB2.out.size)
    have HL3 : Hid ((w2.drewN q).heap[w.heap.size]? = some (.cells #[.int .i64 la, .int .i64 lb, .int .i64 lc] 23 (0, 0))) := HL2.out
    generalize w2.drewN q = w3 at HB3 HL3 ⊢
    clear HB2 HL2
    have hsz3 : w.heap.size < w3.heap.size := (Array.getElem?_eq_some_iff.1 HL3.out).1
    have l0 := heap_cell HL3.out 0
    have l1 := heap_cell HL3.out 1
    have l2 := heap_cell HL3.out 2
    go_wp2_with fail
    (with_reducible refine (Ours_c la lb lc w3).mono ?_)
    rintro e w4 ⟨rfl, hb4⟩
    have HB4 : Hid (Below w.heap.size w w4) := HB3.out.trans (hb4.mono (Nat.le_of_lt hsz3))
    have HL4 : Hid (w4.heap[w.heap.size]? = some (.cells #[.int .i64 la, .int .i64 lb, .int .i64 lc] 23 (0, 0))) := (hb4.block _ hsz3).trans HL3.out
    have hsz4 : w.heap.size < w4.heap.size := (Array.getElem?_eq_some_iff.1 HL4.out).1
    clear hb4 l0 l1 l2
    go_wp2_with fail
    (with_reducible refine (HP.out _ (HM.out.go HB4.out)).mono ?_)
    rintro e w5 ⟨rfl, hb5⟩
    have HB5 : Hid (Below w.heap.size w w5) := HB4.out.trans (hb5.mono (Nat.le_of_lt hsz4))
    have HL5 : Hid (w5.heap[w.heap.size]? = some (.cells #[.int .i64 la, .int .i64 lb, .int .i64 lc] 23 (0, 0))) := (hb5.block _ hsz4).trans HL4.out
    have hsz5 : w.heap.size < w5.heap.size := (Array.getElem?_eq_some_iff.1 HL5.out).1
    have l0 := heap_cell HL5.out 0
    have l1 := heap_cell HL5.out 1
    have l2 := heap_cell HL5.out 2
    clear hb5
    obtain ⟨c1, c2, hr⟩ := HR.out w5
    go_wp2_with fail
    (with_reducible refine hr.mono ?_)
    rintro e w6 ⟨rfl, hb6⟩
    have HB6 : Hid (Below w.heap.size w w6) := HB5.out.trans (hb6.mono (Nat.le_of_lt hsz5))
    clear hb6 l0 l1 l2 hr
    go_wp2_with fail
    (with_reducible refine (awakeC_c _ (HM.out.go HB6.out)).mono ?_)
    rintro e w9 ⟨rfl, hb9⟩
    have HB9 := Lib.hid (HB6.out.trans (hb9.mono HB6.out.size))
    clear hb9
    go_wp2
    go_ret
    exact ⟨rfl, HB9.out⟩
  | false =>
    obtain ⟨hc3, rfl, rfl, rfl⟩ := hbig.2 rfl
    clear hbig
    go_enter Tryd.func3, Tryd.ntmps3
    go_wp2_with fail
    rw [← HWE.out]
    clear HWE
    (with_reducible refine (hsh.out _).mono ?_)
    rintro e w1 ⟨rfl, hw⟩
    rw [← hw]; clear hw
    go_wp2_with fail
    (with_reducible refine (hsh2.out _).mono ?_)
    rintro e w1 ⟨rfl, hw⟩
    rw [← hw]; clear hw
    go_wp2_with fail
    (with_reducible refine (HE.out _ (HT.out.go HB0.out)).mono ?_)
    rintro e w2 ⟨rfl, hb2⟩
    have HB2 : Hid (Below w.heap.size w w2) := HB0.out.trans (hb2.mono (Nat.le_of_lt hsz0))
    have HL2 : Hid (w2.heap[w.heap.size]? = some (.cells #[.int .i64 la, .int .i64 lb, .int .i64 lc] 23 (0, 0))) := (hb2.block _ hsz0).trans HL0.out
    clear hb2
    go_wp2_with fail
    (with_reducible refine (HER.out _).mono ?_)
    rintro e w3 ⟨rfl, q, rfl⟩
    have HB3 : Hid (Below w.heap.size w (w2.drewN q)) := HB2.out.trans ((bdrN0 w2 q).mono HB2.out.size)
    have HL3 : Hid ((w2.drewN q).heap[w.heap.size]? = some (.cells #[.int .i64 la, .int .i64 lb, .int .i64 lc] 23 (0, 0))) := HL2.out
    generalize w2.drewN q = w3 at HB3 HL3 ⊢
    clear HB2 HL2
    have hsz3 : w.heap.size < w3.heap.size := (Array.getElem?_eq_some_iff.1 HL3.out).1
    have l0 := heap_cell HL3.out 0
    have l1 := heap_cell HL3.out 1
    have l2 := heap_cell HL3.out 2
    go_wp2_with fail
    (with_reducible refine (Ours_c la lb lc w3).mono ?_)
    rintro e w4 ⟨rfl, hb4⟩
    have HB4 : Hid (Below w.heap.size w w4) := HB3.out.trans (hb4.mono (Nat.le_of_lt hsz3))
    have HL4 : Hid (w4.heap[w.heap.size]? = some (.cells #[.int .i64 la, .int .i64 lb, .int .i64 lc] 23 (0, 0))) := (hb4.block _ hsz3).trans HL3.out
    have hsz4 : w.heap.size < w4.heap.size := (Array.getElem?_eq_some_iff.1 HL4.out).1
    clear hb4 l0 l1 l2
    go_wp2_with fail
    (with_reducible refine (HP.out _ (HM.out.go HB4.out)).mono ?_)
    rintro e w5 ⟨rfl, hb5⟩
    have HB5 : Hid (Below w.heap.size w w5) := HB4.out.trans (hb5.mono (Nat.le_of_lt hsz4))
    have HL5 : Hid (w5.heap[w.heap.size]? = some (.cells #[.int .i64 la, .int .i64 lb, .int .i64 lc] 23 (0, 0))) := (hb5.block _ hsz4).trans HL4.out
    have hsz5 : w.heap.size < w5.heap.size := (Array.getElem?_eq_some_iff.1 HL5.out).1
    have l0 := heap_cell HL5.out 0
    have l1 := heap_cell HL5.out 1
    have l2 := heap_cell HL5.out 2
    clear hb5
    obtain ⟨c1, c2, hr⟩ := HR.out w5
    go_wp2_with fail
    (with_reducible refine hr.mono ?_)
    rintro e w6 ⟨rfl, hb6⟩
    have HB6 : Hid (Below w.heap.size w w6) := HB5.out.trans (hb6.mono (Nat.le_of_lt hsz5))
    clear hb6 l0 l1 l2 hr
    go_wp2_with fail
    (with_reducible refine (awakeC_c _ (HM.out.go HB6.out)).mono ?_)
    rintro e w9 ⟨rfl, hb9⟩
    have HB9 := Lib.hid (HB6.out.trans (hb9.mono HB6.out.size))
    clear hb9
    go_wp2
    go_ret
    exact ⟨rfl, HB9.out⟩
end Go.Proofs.YteegbcjpganobaaDoor.Hd
