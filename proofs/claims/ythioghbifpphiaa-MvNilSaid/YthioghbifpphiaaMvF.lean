/- New, refused, Get at the one key; no other condition. -/
import Derived.Test.YthioghbifpphiaaMvE
namespace Go.Proofs.Ythioghbifpphiaa.Mv
open Go.RowKit Go.Lib Go.Maps
open Go.Proofs.Ythioghbifpphiaa.Cn
set_option linter.unusedSimpArgs false
set_option linter.unusedVariables false

set_option maxRecDepth 100000 in
set_option maxHeartbeats 2000000 in
theorem New_m (w : World) : Calls Try.prog 7 #[.agg #[.int .i64 3, .int .i64 9]] w fun e w' => e = .returned (.pointer (some ⟨w.heap.size + 1, 0, none⟩)) ∧ w'.heap[w.heap.size + 1]? = some (obS 0 0 (.map none) 0 0) ∧ Below w.heap.size w w' := by
  obtain ⟨W0, hW0⟩ : ∃ W0, W0 = w.alloc (.cells #[.int .i64 3, .int .i64 9] 26) := ⟨_, rfl⟩
  have hk0 : W0.heap[w.heap.size]? = some (.cells #[.int .i64 3, .int .i64 9] 26 (0, 0)) := by rw [hW0]; exact heap_alloc_new w _
  have hb0 : Below w.heap.size w W0 := by rw [hW0]; exact (Below.refl _ _).alloc (Nat.le_refl _) _
  have hz0 : W0.heap.size = w.heap.size + 1 := by rw [hW0]; simp
  obtain ⟨W1, hW1⟩ : ∃ W1, W1 = W0.alloc (obS 0 0 (.map none) 0 0) := ⟨_, rfl⟩
  have hk1 : W1.heap[w.heap.size + 1]? = some (obS 0 0 (.map none) 0 0) := by rw [hW1, ← hz0]; exact heap_alloc_new W0 _
  have HB1 : Hid (Below w.heap.size w W1) := by rw [hW1]; exact Lib.hid (hb0.alloc hb0.size _)
  have x0 := cell_of_row _ _ 0 _ _ _ hk0
  have x1 := cell_of_row _ _ 1 _ _ _ hk0
  have HK1 := Lib.hid hk1
  have HW0 := Lib.hid hW0
  have HW1 := Lib.hid hW1
  have HZ0 := Lib.hid hz0
  clear hk0 hb0 hz0 hk1 hW0 hW1
  go_enter Try.func7, Try.ntmps7
  go_upto_region 1 with (fail)
  rw [← HW0.out]
  go_wp2
  rw [← HW1.out]
  go_ret
  exact ⟨by simp [Array.getD]; exact HZ0.out, HK1.out, HB1.out⟩
set_option maxRecDepth 100000 in
set_option maxHeartbeats 2000000 in
theorem ref_ok (c : Nat) (rev fl ks vs q : Int) (mp : Value) (w : World) (h : w.heap[c]? = some (obS rev fl mp ks vs)) (h0 : 0 ≤ q) (h1 : q ≤ rev) (h2 : fl ≤ q) : Calls Try.prog 29 #[.pointer (some ⟨c, 0, none⟩), .int .i64 q] w fun e w' => e = .returned (.int .i64 0) ∧ w' = w := by
  obtain ⟨c0, c1, c2, c3, c4, c5, c6, c7⟩ := cells8 h
  have d0 : ¬ q < 0 := by omega
  have d1 : ¬ q > rev := by omega
  have d2 : ¬ q < fl := by omega
  clear h
  go_enter Try.func29, Try.ntmps29
  go_wp2
  go_ret
  exact ⟨rfl, rfl⟩
set_option maxRecDepth 100000 in
set_option maxHeartbeats 2000000 in
theorem ref_gone (c : Nat) (rev fl ks vs q : Int) (mp : Value) (w : World) (h : w.heap[c]? = some (obS rev fl mp ks vs)) (h0 : 0 ≤ q) (h1 : q ≤ rev) (h2 : q < fl) : Calls Try.prog 29 #[.pointer (some ⟨c, 0, none⟩), .int .i64 q] w fun e w' => e = .returned (.int .i64 9) ∧ w' = w := by
  obtain ⟨c0, c1, c2, c3, c4, c5, c6, c7⟩ := cells8 h
  have d0 : ¬ q < 0 := by omega
  have d1 : ¬ q > rev := by omega
  clear h
  go_enter Try.func29, Try.ntmps29
  go_wp2
  go_ret
  exact ⟨rfl, rfl⟩
theorem ref_nil (q : Int) (w : World) : Calls Try.prog 29 #[.pointer none, .int .i64 q] w fun e w' => e = .returned (.int .i64 2) ∧ w' = w := by
  go_enter Try.func29, Try.ntmps29
  go_wp2
  go_ret
  exact ⟨rfl, rfl⟩
/-- Get where it is refused -/
theorem get_no (p : Value) (key : ByteArray) (q r : Int) (w : World) (hr : r ≠ 0) (HR : Hid (∀ W, Below w.heap.size w W → Calls Try.prog 29 #[p, .int .i64 q] W fun e w' => e = .returned (.int .i64 r) ∧ w' = W)) :
    Calls Try.prog 19 #[p, .string key, .int .i64 q] w fun e w' => e = .returned (.tuple #[.agg #[.string ⟨#[]⟩, .string ⟨#[]⟩, .int .i64 0], .int .i64 r]) ∧ Below w.heap.size w w' := by
  obtain ⟨W0, hW0, hk0, hb0⟩ := Cn.new3 w (.string ⟨#[]⟩) (.string ⟨#[]⟩) (.int .i64 0) 49
  have HW0 := Lib.hid hW0
  have HB0 := Lib.hid hb0
  have HRR := Lib.hid (HR.out W0 hb0)
  have e1 : (r != 0) = true := by simpa using hr
  obtain ⟨y0, y1, y2⟩ := Cn.cells3 hk0
  have z0 := frz hk0 0
  have z1 := frz hk0 1
  have z2 := frz hk0 2
  have HH := Lib.hid (st3 hk0 (.string ⟨#[]⟩) (.string ⟨#[]⟩) (.int .i64 0))
  have HBF := Lib.hid (hb0.trans (bel_set3 (B := w.heap.size) (r := w.heap.size) W0 (Nat.le_refl _) (.string ⟨#[]⟩) (.string ⟨#[]⟩) (.int .i64 0)))
  clear hW0 hk0 hb0 hr
  go_enter Try.func19, Try.ntmps19
  go_upto_region 1 with (fail)
  rw [← HW0.out]
  go_wp2_with (go_at_call 29; (with_reducible refine HRR.out.mono ?_); rintro e w1 ⟨rfl, rfl⟩)
  obtain ⟨d0, d1, d2⟩ := Cn.cells3 HH.out
  clear y0 y1 y2 z0 z1 z2
  (with_reducible refine bodyPost_ret (v := .tuple #[.agg #[.string ⟨#[]⟩, .string ⟨#[]⟩, .int .i64 0], .int .i64 r]) (by simp [results, Try.results19, go_sem, d0, d1, d2]) rfl ⟨rfl, HBF.out⟩)
set_option maxRecDepth 100000 in
set_option maxHeartbeats 2000000 in
theorem get_ok {B c b d N : Nat} {gb : Option Nat} {l : List Ver} {rev fl vs : Int} {w : World} (q : Int) (h : S1 B c b d N gb l rev fl vs w) (hN : N ≤ 1000) (h0 : 0 ≤ q) (h1 : q ≤ rev) (h2 : fl ≤ q) (ha : atB l q = true) :
    Calls Try.prog 19 #[.pointer (some ⟨c, 0, none⟩), .string kb, .int .i64 q] w fun e w' => e = .returned (.tuple #[.agg #[.string kb, .string (atV l q).2.1, .int .i64 (atV l q).1], .int .i64 0]) ∧ Below w.heap.size w w' := by
  obtain ⟨W0, hW0, hk0, hb0⟩ := Cn.new3 w (.string ⟨#[]⟩) (.string ⟨#[]⟩) (.int .i64 0) 49
  have hz0 : w.heap.size < W0.heap.size := (Array.getElem?_eq_some_iff.1 hk0).1
  have H0 := Lib.hid (h.kept hb0)
  have HW0 := Lib.hid hW0
  have HB0 := Lib.hid hb0
  have HK0 := Lib.hid hk0
  have HR := Lib.hid (ref_ok c rev fl 1 vs q _ W0 H0.out.hs h0 h1 h2)
  have HA := Lib.hid (At_c B d N gb l q W0 H0.out.hc (by omega) H0.out.asc)
  rw [ha] at HA
  unfold vb aggV at HA
  have hld := H0.out.hm.look
  clear hW0 hk0 hb0 h h0 h1 h2 ha
  obtain ⟨⟨r, t, g⟩, hx⟩ : ∃ x, atV l q = x := ⟨_, rfl⟩
  rw [hx] at HA
  rw [hx]
  dsimp only at HA ⊢
  go_enter Try.func19, Try.ntmps19
  go_upto_region 1 with (fail)
  rw [← HW0.out]
  go_upto_region 2 with (go_at_call 29; (with_reducible refine HR.out.mono ?_); rintro e w1 ⟨rfl, rfl⟩)
  obtain ⟨c0, c1, c2, c3, c4, c5, c6, c7⟩ := cells8 H0.out.hs
  go_upto_region 5 with (go_at_call 32; (with_reducible refine HA.out.mono ?_); rintro e w2 ⟨rfl, hb2⟩; have HB2 := Lib.hid hb2; clear hb2)
  clear c0 c1 c2 c3 c4 c5 c6 c7
  obtain ⟨W3, hW3, hk3, hb3⟩ := Cn.new3 w2 (.int .i64 r) (.string t) (.bool g) 78
  have HW3 := Lib.hid hW3
  have HK3 : Hid (W3.heap[w.heap.size]? = some (.cells #[.string ⟨#[]⟩, .string ⟨#[]⟩, .int .i64 0] 49 (0, 0))) := (hb3.block _ (by have := HB2.out.size; omega)).trans ((HB2.out.block _ hz0).trans HK0.out)
  have HB3 : Hid (Below w.heap.size w W3) := btr HB0.out (btr HB2.out hb3)
  obtain ⟨x0, x1, x2⟩ := Cn.cells3 hk3
  obtain ⟨y0, y1, y2⟩ := Cn.cells3 HK3.out
  have z0 := frz HK3.out 0
  have z1 := frz HK3.out 1
  have z2 := frz HK3.out 2
  have HH := Lib.hid (st3 HK3.out (.string kb) (.string t) (.int .i64 r))
  have HBF := Lib.hid (HB3.out.trans (bel_set3 (B := w.heap.size) (r := w.heap.size) W3 (Nat.le_refl _) (.string kb) (.string t) (.int .i64 r)))
  clear hW3 hk3 hb3
  rw [← HW3.out]
  go_wp2
  obtain ⟨d0, d1, d2⟩ := Cn.cells3 HH.out
  clear y0 y1 y2 z0 z1 z2 x0 x1 x2
  (with_reducible refine bodyPost_ret (v := .tuple #[.agg #[.string kb, .string t, .int .i64 r], .int .i64 0]) (by simp [results, Try.results19, go_sem, d0, d1, d2]) rfl ⟨rfl, HBF.out⟩)
end Go.Proofs.Ythioghbifpphiaa.Mv
