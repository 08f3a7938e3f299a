/- The contract of the library's strings.Builder's String at the builder that lies in package chunk's reader; no condition. -/
import Derived.Test.YteegbcjpganobaaDoorCkBld
namespace Go.Proofs.YteegbcjpganobaaDoor.Hd
open Go.RowKit Ch
set_option linter.unusedSimpArgs false
set_option linter.unusedVariables false

set_option maxHeartbeats 2000000 in
set_option maxRecDepth 100000 in
theorem str_nil (g : Nat) (w : World) (c1 : w.cell? ⟨g, 8, none⟩ = some (.slice none 0 0)) :
    Calls Tryd.prog 13 #[.pointer (some ⟨g, 7, none⟩)] w fun e w' => e = .returned (.string ⟨#[]⟩) ∧ Below w.heap.size w w' := by
  have hUS : ∀ (W : World) (q : Option Addr), (Builtin.unsafeString_ #[48, 3] 9 #[.pointer q, .int .i64 0]).run Tryd.prog W = .ok (.string ⟨#[]⟩) W := Any.unsafeString_none Tryd.lays169 Tryd.Builder_Extra_169
  have c2 : w.drew.cell? ⟨g, 8, none⟩ = some (.slice none 0 0) := c1
  have hSD : (Builtin.unsafeSliceData_ #[34] 48 #[.slice none 0 0]).run Tryd.prog w.drew = .ok (.pointer none) w.drew := rfl
  have mixed := Tryd.lays169.mixed
  go_enter Tryd.func13, Tryd.ntmps13
  go_wp2
  go_region_o
  all_goals (go_wp2; go_ret; exact ⟨rfl, ⟨rfl, rfl, rfl, Nat.le_refl _, fun _ _ => rfl⟩⟩)
set_option maxHeartbeats 2000000 in
set_option maxRecDepth 100000 in
theorem str_some (g f cap : Nat) (l : List UInt8) (cur : Array Value) (fz : Nat × Nat) (w : World) (h0 : l ≠ []) (c0 : w.cell? ⟨g, 8, none⟩ = some (.slice (some ⟨f, 0, none⟩) l.length cap)) (hgf : g + 1 ≤ f) (hf : w.heap[f]? = some (.cells cur 5 fz)) (hnc : l.length ≤ cap) (hcm : cap ≤ maxLen) (hcs : cur.size = cap * 1) (htake : cur.toList.take (l.length * 1) = Lib.byteCells l) (hown : OwB (g + 1) (.slice (some ⟨f, 0, none⟩) l.length cap) l w) :
    Calls Tryd.prog 13 #[.pointer (some ⟨g, 7, none⟩)] w fun e w' => e = .returned (.string (mkS l)) ∧ Below (g + 1) w w' := by
  have hl0 : l.length ≠ 0 := by simpa using h0
  have c1 : w.drew.cell? ⟨g, 8, none⟩ = some (.slice (some ⟨f, 0, none⟩) l.length cap) := c0
  have hSD : (Builtin.unsafeSliceData_ #[34] 48 #[.slice (some ⟨f, 0, none⟩) l.length cap]).run Tryd.prog w.drew = .ok (.pointer (some ⟨f, 0, none⟩)) w.drew :=
    Lib.run_unsafeSliceData_row _ _ _ _ _ _ (by omega)
  have hUS : (Builtin.unsafeString_ #[48, 3] 9 #[.pointer (some ⟨f, 0, none⟩), .int .i64 l.length]).run Tryd.prog w.drew = .ok (.string (mkS l)) (w.drew.freeze ⟨f, 0, none⟩ l.length) := by
    refine Lib.run_unsafeString_row w.drew 48 3 9 5 Tryd.lays169.t127 Tryd.Builder_Extra_169.cellsByte f cur.size (by have hg' : w.drew.heap[f]? = some (.cells cur 5 fz) := hf; simp [World.shape?, hg']) l h0 (by omega) (by unfold maxLen at hcm; omega) ?_
    intro j x hx
    have := hown.cells (g := f) rfl j (.int .u8 x.toNat) (by simp [Lib.byteCells, hx])
    exact this
  have HB := Lib.hid (Lib.below_freeze (Below.drew (Below.refl (g + 1) w)) (p := ⟨f, 0, none⟩) hgf l.length)
  clear hown htake hcs hf
  have mixed := Tryd.lays169.mixed
  go_enter Tryd.func13, Tryd.ntmps13
  go_wp2
  go_region_o
  all_goals (go_wp2; go_ret; exact ⟨rfl, HB.out⟩)
theorem strB_c (g : Nat) (s : ByteArray) (k : Nat) (a b c sz n : Int) (l : List UInt8) (st : Int) (w : World) (h : St g s k a b c sz n l st w) :
    Calls Tryd.prog 13 #[.pointer (some ⟨g, 7, none⟩)] w fun e w' => e = .returned (.string (mkS l)) ∧ (w'.cell? ⟨g, 1, none⟩ = some (.int .i64 (k : Int))) ∧ Below g w w' := by
  have hlt := h.lt
  obtain ⟨p, v, h1, h2, h3, h4⟩ := h
  have fin : ∀ (e : Ending) (w' : World), (e = .returned (.string (mkS l)) ∧ Below (g + 1) w w') → e = .returned (.string (mkS l)) ∧ (w'.cell? ⟨g, 1, none⟩ = some (.int .i64 (k : Int))) ∧ Below g w w' := fun e w' hh => ⟨hh.1, heap_cell ((hh.2.block g (Nat.lt_succ_self _)).trans h1) 1, ⟨hh.2.os, hh.2.tape, hh.2.output, hh.2.size, fun q hq => hh.2.block q (by omega)⟩⟩
  by_cases h0 : l = []
  · have hv := h4 h0
    subst h0
    subst hv
    refine (str_nil g w (heap_cell h1 8)).mono fun e w' hh => fin e w' ⟨hh.1, ⟨hh.2.os, hh.2.tape, hh.2.output, hh.2.size, fun q hq => hh.2.block q (by omega)⟩⟩
  · have hl0 : l.length ≠ 0 := by simpa using h0
    have ho := h3
    rcases h3.2 with ⟨_, hz⟩ | ⟨f, cap, cur, fz, rfl, hbg, hg, hfz, hnc, hcm, hcs, htake⟩
    · exact absurd hz hl0
    · exact (str_some g f cap l cur fz w h0 (heap_cell h1 8) hbg hg hnc hcm hcs htake ho).mono fin
end Go.Proofs.YteegbcjpganobaaDoor.Hd
