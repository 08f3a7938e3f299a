/- Contracts of the statements' short, like and awake: texts cut to a hundred and twenty bytes; a token held against the document's; chapter 5's example; where the tables lie as the program's text lays them. -/
import Derived.Test.YtmjfkibfakbdmaaDoorJtPub
import Derived.Laws.StructEq
namespace Go.Proofs.YtmjfkibfakbdmaaDoor.Jt
open Go.RowKit
set_option linter.unusedSimpArgs false
set_option linter.unusedVariables false

theorem ret_str {a b : ByteArray} (h : a = b) : Ending.returned (.string a) = .returned (.string b) := by rw [h]
def shortL (l : List UInt8) : List UInt8 := l.take 120
theorem short_sz (a : ByteArray) : (mkS (shortL a.data.toList)).size ≤ 120 := by rw [size_mkS]; unfold shortL; rw [List.length_take]; omega
theorem short_c (s : ByteArray) (w : World) (hs : s.size ≤ maxLen) : Calls Tryd.prog 7 #[.string s] w fun e w' => e = .returned (.string (mkS (shortL s.data.toList))) ∧ w = w' := by
  unfold maxLen at hs
  by_cases h : 120 < s.size
  · have h' : (120 : Int) < (s.size : Int) := by omega
    go_enter Tryd.func7, Tryd.ntmps7
    go_wp2
    go_ret
    exact ⟨ret_str (mkS_of (by rw [Lib.extract_data]; simp [shortL])), rfl⟩
  · have h' : (s.size : Int) ≤ 120 := by omega
    have H := Lib.hid h
    go_enter Tryd.func7, Tryd.ntmps7
    go_wp2
    go_ret
    exact ⟨ret_str (mkS_of (by have := H.out; rw [size_l] at this; unfold shortL; rw [List.take_of_length_le (by omega)])), rfl⟩
theorem flds : (Tryd.prog.fieldsOf 24).toList.length = 5 := by kernel_rfl
theorem und : Tryd.prog.underlying 24 = some (.struct (Tryd.prog.fieldsOf 24)) := by kernel_rfl
theorem stood : Tryd.prog.stoodInHeld 24 = false := by kernel_rfl
set_option maxRecDepth 100000 in
set_option maxHeartbeats 2000000 in
theorem like_c (k a b n : Int) (t : ByteArray) (w : World) : Calls Tryd.prog 11 #[.agg #[.int .i64 k, .int .i64 a, .int .i64 b, .string t, .int .i64 n], .agg #[.int .i64 k, .int .i64 a, .int .i64 b, .string t, .int .i64 n]] w fun e w' => e = .returned (.bool true) ∧ Below w.heap.size w w' := by
  have hs := stood
  go_enter Tryd.func11, Tryd.ntmps11
  go_wp2
  go_ret
  exact ⟨rfl, by (repeat (first | exact Below.refl _ _ | refine Below.alloc ?_ (by first | (simp; done) | (simp; omega)) _))⟩
def exL : List UInt8 := [32, 34, 195, 169, 92, 110, 34]
theorem ex_tok : tokA exL 0 = (⟨7, 1, 7, [195, 169, 10], 0⟩, 0) := by kernel_rfl
set_option maxRecDepth 100000 in
set_option maxHeartbeats 2000000 in
theorem awake_c (w : World) (hE : Env w) : Calls Tryd.prog 9 #[] w fun e w' => e = .returned (.bool true) ∧ Below w.heap.size w w' := by
  have HN := Lib.hid (Next_c ⟨#[32, 34, 195, 169, 92, 110, 34]⟩ 0 w hE (by decide) (by decide))
  rw [show (ByteArray.mk #[32, 34, 195, 169, 92, 110, 34]).data.toList = exL from rfl, ex_tok] at HN
  simp only [ret2, tkV, tokV] at HN
  have qs : ((mkS [195, 169, 10]).toList == [195, 169, 10]) = true := by rw [Lib.toList_data, data_mkS]; rfl
  clear hE
  go_enter Tryd.func9, Tryd.ntmps9
  go_wp2_with fail
  refine HN.out.mono ?_
  rintro e w1 ⟨rfl, hb1⟩
  have B1 := Lib.hid hb1
  clear hb1
  go_wp2
  go_ret
  exact ⟨rfl, B1.out.alloc B1.out.size _⟩
end Go.Proofs.YtmjfkibfakbdmaaDoor.Jt
