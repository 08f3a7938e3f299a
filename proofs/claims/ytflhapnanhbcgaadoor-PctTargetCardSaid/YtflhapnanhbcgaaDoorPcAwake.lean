/- Contracts of the statements' short and awake: texts cut to a hundred bytes; chapter 8's example; no condition but the length. -/
import Derived.Test.YtflhapnanhbcgaaDoorPcSpl
import Derived.Laws.StructEq
namespace Go.Proofs.YtflhapnanhbcgaaDoor.Pc
open Go.RowKit Jt
set_option linter.unusedSimpArgs false
set_option linter.unusedVariables false

theorem ret_str {a b : ByteArray} (h : a = b) : Ending.returned (.string a) = .returned (.string b) := by rw [h]
def shortL (l : List UInt8) : List UInt8 := l.take 100
theorem short_sz (a : ByteArray) : (mkS (shortL a.data.toList)).size ≤ 100 := by rw [size_mkS]; unfold shortL; rw [List.length_take]; omega
theorem short_c (s : ByteArray) (w : World) (hs : s.size ≤ maxLen) : Calls Tryd.prog 4 #[.string s] w fun e w' => e = .returned (.string (mkS (shortL s.data.toList))) ∧ w = w' := by
  unfold maxLen at hs
  by_cases h : 100 < s.size
  · have h' : (100 : Int) < (s.size : Int) := by omega
    go_enter Tryd.func4, Tryd.ntmps4
    go_wp2
    go_ret
    exact ⟨ret_str (mkS_of (by rw [Lib.extract_data]; simp [shortL])), rfl⟩
  · have h' : (s.size : Int) ≤ 100 := by omega
    have H := Lib.hid h
    go_enter Tryd.func4, Tryd.ntmps4
    go_wp2
    go_ret
    exact ⟨ret_str (mkS_of (by have := H.out; rw [size_l] at this; unfold shortL; rw [List.take_of_length_le (by omega)])), rfl⟩
def exL : List UInt8 := [47, 97, 37, 50, 70, 98, 47, 63, 120, 61, 49, 43, 50, 38, 121]
theorem ex_spl : splL exL = some ([[97, 47, 98], []], [([120], [49, 32, 50]), ([121], [])]) := by decide +kernel
theorem stood : Tryd.prog.stoodInHeld 28 = false := by kernel_rfl
theorem own_form {w : World} {base : Nat} {e : TypeId} {size : Nat} {v : Value} {n : Nat} {xs : List Value} (h : w.ownsRow base e size v n xs) (hn : 0 < n) : ∃ g cap, v = .slice (some ⟨g, 0, none⟩) n cap := by
  rcases h.2 with ⟨_, h0⟩ | ⟨g, cap, cur, hv, _⟩
  · omega
  · exact ⟨g, cap, hv⟩
set_option maxRecDepth 100000 in
set_option maxHeartbeats 4000000 in
theorem awake_c (w : World) : Calls Tryd.prog 10 #[] w fun e w' => e = .returned (.bool true) ∧ Below w.heap.size w w' := by
  have HN := Lib.hid (Split_c ⟨#[47, 97, 37, 50, 70, 98, 47, 63, 120, 61, 49, 43, 50, 38, 121]⟩ w (by decide))
  rw [show (ByteArray.mk #[47, 97, 37, 50, 70, 98, 47, 63, 120, 61, 49, 43, 50, 38, 121]).data.toList = exL from rfl, ex_spl] at HN
  have q1 : ((mkS [97, 47, 98]).toList == [97, 47, 98]) = true := by rw [Lib.toList_data, data_mkS]; rfl
  have hs := stood
  go_enter Tryd.func10, Tryd.ntmps10
  go_wp2_with fail
  refine HN.out.mono ?_
  rintro e w1 ⟨⟨v, u, rfl, ho, hp⟩, hb1⟩
  have HB1 := Lib.hid hb1
  obtain ⟨g, cap, rfl⟩ := own_form ho (by decide)
  obtain ⟨g2, cap2, rfl⟩ := own_form hp (by decide)
  have c0 : w1.cell? ⟨g, 0, none⟩ = some (.string ⟨#[97, 47, 98]⟩) := World.ownsRow.cellAt ho 0 (by decide)
  have c1 : w1.cell? ⟨g, 1, none⟩ = some (.string ⟨#[]⟩) := World.ownsRow.cellAt ho 1 (by decide)
  have d0 : w1.cell? ⟨g2, 0, none⟩ = some (.string ⟨#[120]⟩) := World.ownsRow.cellAt hp 0 (by decide)
  have d1 : w1.cell? ⟨g2, 1, none⟩ = some (.string ⟨#[49, 32, 50]⟩) := World.ownsRow.cellAt hp 1 (by decide)
  have d2 : w1.cell? ⟨g2, 2, none⟩ = some (.string ⟨#[121]⟩) := World.ownsRow.cellAt hp 2 (by decide)
  have d3 : w1.cell? ⟨g2, 3, none⟩ = some (.string ⟨#[]⟩) := World.ownsRow.cellAt hp 3 (by decide)
  clear ho hp hb1
  go_wp2
  go_ret
  exact ⟨rfl, HB1.out⟩
end Go.Proofs.YtflhapnanhbcgaaDoor.Pc
