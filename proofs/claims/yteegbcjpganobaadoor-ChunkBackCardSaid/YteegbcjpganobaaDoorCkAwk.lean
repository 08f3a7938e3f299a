/- The contracts of the statements' awake and small functions over package chunk; where the library's variable MaxLen holds a number. -/
import Derived.Test.YteegbcjpganobaaDoorCkPar
namespace Go.Proofs.YteegbcjpganobaaDoor.Hd
open Go.RowKit Ch
set_option linter.unusedSimpArgs false
set_option linter.unusedVariables false

def exC : ByteArray := ⟨#[51, 59, 120, 13, 10, 97, 98, 99, 13, 10, 48, 13, 10, 13, 10, 109, 111, 114, 101]⟩
theorem ex_fin : (finL exC.data.toList 16 1 9).st = 0 ∧ (finL exC.data.toList 16 1 9).bd = [97, 98, 99] ∧ (finL exC.data.toList 16 1 9).k = 15 := by decide +kernel
set_option maxRecDepth 100000 in
set_option maxHeartbeats 2000000 in
theorem awakeC_c (w : World) (hM : Mx w) : Calls Tryd.prog 10 #[] w fun e w' => e = .returned (.bool true) ∧ Below w.heap.size w w' := by
  have HP := CParse_c exC 0 0 9 w hM (by decide) _ rfl
  obtain ⟨e0, e1, e2⟩ := ex_fin
  rw [show clmp 0 16 8192 = 16 from rfl, show clmp 0 1 100 = 1 from rfl, show clmp 9 0 1048576 = 9 from rfl, e0, e1, e2, if_pos rfl] at HP
  unfold exC at HP
  have HPH := Lib.hid HP
  clear HP e0 e1 e2 hM
  go_enter Tryd.func10, Tryd.ntmps10
  go_wp2_with fail
  (with_reducible refine HPH.out.mono ?_)
  rintro e w1 ⟨rfl, hb⟩
  have HB := Lib.hid hb
  clear hb
  have hab : (mkS [97, 98, 99]) = ⟨#[97, 98, 99]⟩ := rfl
  rw [hab]
  go_wp2
  go_ret
  exact ⟨rfl, HB.out⟩
set_option maxRecDepth 100000 in
set_option maxHeartbeats 2000000 in
theorem Ours_c (a b c : Int) (w : World) : Calls Tryd.prog 8 #[.agg #[.int .i64 a, .int .i64 b, .int .i64 c]] w fun e w' => e = .returned (.agg #[.int .i64 a, .int .i64 b, .int .i64 c]) ∧ Below w.heap.size w w' := by
  have hz : ∀ o, (w.alloc o).heap.size = w.heap.size + 1 := fun o => by simp
  have hb := (Below.refl w.heap.size w).alloc (Nat.le_refl _) (.cells #[.int .i64 a, .int .i64 b, .int .i64 c] 23)
  have HB : Hid (Below w.heap.size w ((w.alloc (.cells #[.int .i64 a, .int .i64 b, .int .i64 c] 23)).alloc (.cells #[.int .i64 a, .int .i64 b, .int .i64 c] 28))) := hb.alloc hb.size _
  have hk := heap_alloc_new (w.alloc (.cells #[.int .i64 a, .int .i64 b, .int .i64 c] 23)) (.cells #[.int .i64 a, .int .i64 b, .int .i64 c] 28)
  rw [hz] at hk
  have d0 := cell_of_row _ _ 0 _ _ _ hk
  have d1 := cell_of_row _ _ 1 _ _ _ hk
  have d2 := cell_of_row _ _ 2 _ _ _ hk
  have HD0 := Lib.hid d0
  have HD1 := Lib.hid d1
  have HD2 := Lib.hid d2
  clear d0 d1 d2 hk hb
  go_enter Tryd.func8, Tryd.ntmps8
  go_wp2_with fail
  have d0 := HD0.out
  have d1 := HD1.out
  have d2 := HD2.out
  (with_reducible refine bodyPost_ret (v := .agg #[.int .i64 a, .int .i64 b, .int .i64 c]) (by simp [results, Tryd.results8, go_sem, d0, d1, d2]) rfl ⟨rfl, HB.out⟩)
def shortL (l : List UInt8) : List UInt8 := l.take 500
theorem short_sz (a : ByteArray) : (mkS (shortL a.data.toList)).size ≤ 500 := by rw [size_mkS]; unfold shortL; rw [List.length_take]; omega
theorem short_c (s : ByteArray) (w : World) (hs : s.size ≤ maxLen) : Calls Tryd.prog 4 #[.string s] w fun e w' => e = .returned (.string (mkS (shortL s.data.toList))) ∧ w = w' := by
  unfold maxLen at hs
  by_cases h : 500 < s.size
  · have h' : (500 : Int) < (s.size : Int) := by omega
    go_enter Tryd.func4, Tryd.ntmps4
    go_wp2
    go_ret
    exact ⟨Hd.ret_str (mkS_of (by rw [Lib.extract_data]; simp [shortL])), rfl⟩
  · have h' : (s.size : Int) ≤ 500 := by omega
    have H := Lib.hid h
    go_enter Tryd.func4, Tryd.ntmps4
    go_wp2
    go_ret
    exact ⟨Hd.ret_str (mkS_of (by have := H.out; rw [Lib.size_eq] at this; unfold shortL; rw [List.take_of_length_le (by omega)])), rfl⟩
end Go.Proofs.YteegbcjpganobaaDoor.Hd
