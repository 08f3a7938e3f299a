/- Contracts of package etag's One and Parse: for every text of at most a thousand bytes. -/
import Derived.Test.YtojmjdgapfcjfaaDoorEtMarks
namespace Go.Proofs.YtojmjdgapfcjfaaDoor.Et
open Go.RowKit Ch
set_option linter.unusedSimpArgs false
set_option linter.unusedVariables false

def tgA (q : Option TagL) : Value := match q with
  | none => .agg #[.bool false, .string ⟨#[]⟩]
  | some t => .agg #[.bool t.1, .string (mkS t.2)]
def erN (b : Bool) : Int := if b then 0 else 3
theorem res_blk0 {w w2 : World} (hb : Below (w.heap.size + 1) (w.alloc (.cells #[.bool false, .string ⟨#[]⟩] 28)) w2) : w2.heap[w.heap.size]? = some (.cells #[.bool false, .string ⟨#[]⟩] 28 (0, 0)) := (hb.block w.heap.size (by omega)).trans (heap_alloc_new w _)
theorem res_bel0 {w w2 : World} {o : Obj} (hb : Below (w.heap.size + 1) (w.alloc o) w2) : Below w.heap.size w w2 := ((Below.refl w.heap.size w).alloc (Nat.le_refl _) o).trans (hb.mono (by omega))
theorem set2a {w : World} {g : Nat} {a b : Value} {t : TypeId} (o : Obj) (h : w.heap[g]? = some (.cells #[a, b] t (0, 0))) (x y : Value) : (((w.setCell ⟨g, 0, none⟩ x).setCell ⟨g, 1, none⟩ y).alloc o).heap[g]? = some (.cells #[x, y] t (0, 0)) := (Below.heap_alloc _ _ _ (Array.getElem?_eq_some_iff.1 (set2 h x y)).1).trans (set2 h x y)
theorem mkS_emp (l : List UInt8) : (mkS l).toList.isEmpty = l.isEmpty := by rw [Lib.toList_data, data_mkS]
set_option maxRecDepth 100000 in
set_option maxHeartbeats 2000000 in
theorem One_c (s : ByteArray) (w : World) (hs : s.size ≤ 1000) : Calls Tryd.prog 12 #[.string s] w fun e w' => e = .returned (.tuple #[tgA (oneL s.data.toList), .int .i64 (erN (oneL s.data.toList).isSome)]) ∧ Below w.heap.size w w' := by
  have HC := Lib.hid (fun W => cut_c s W hs)
  have hsz : ∀ o, (w.alloc o).heap.size = w.heap.size + 1 := fun o => by simp
  cases hk : cutT s.data.toList with
  | none =>
    have ho : oneL s.data.toList = none := by unfold oneL; rw [hk]
    rw [ho]
    rw [ctv_no hk] at HC
    clear hk ho
    go_enter Tryd.func12, Tryd.ntmps12
    go_wp2_with fail
    refine (HC.out _).mono ?_
    rintro e w2 ⟨rfl, hb2⟩
    rw [hsz] at hb2
    have HK := Lib.hid (res_blk0 hb2)
    have HB := Lib.hid (res_bel0 hb2)
    have hlt : w.heap.size < w2.heap.size := by have := hb2.size; rw [hsz] at this; omega
    clear hb2
    have hne : w.heap.size ≠ w2.heap.size := by omega
    have c0 := cell_of_row _ _ 0 _ _ _ HK.out
    have c1 := cell_of_row _ _ 1 _ _ _ HK.out
    have z0 := frz2 HK.out 0
    have z1 := frz2 HK.out 1
    go_wp2
    have H2 := set2a (.cells #[.bool false, .string ⟨#[]⟩] 28) HK.out (.bool false) (.string ⟨#[]⟩)
    have d0 := cell_of_row _ _ 0 _ _ _ H2
    have d1 := cell_of_row _ _ 1 _ _ _ H2
    clear c0 c1 z0 z1
    refine bodyPost_ret (v := .tuple #[.agg #[.bool false, .string ⟨#[]⟩], .int .i64 3]) (by simp [results, Tryd.results12, go_sem, d0, d1]) rfl ⟨rfl, ?_⟩
    exact ((HB.out.setCell (p := ⟨w.heap.size, 0, none⟩) (Nat.le_refl _) _).setCell (p := ⟨w.heap.size, 1, none⟩) (Nat.le_refl _) _).alloc (by simp [World.setCell]; omega) _
  | some tb =>
    obtain ⟨⟨tw, tx⟩, b⟩ := tb
    rw [ctv_yes hk] at HC
    simp only at HC
    have hem := mkS_emp b
    cases b with
    | nil =>
      have ho : oneL s.data.toList = some (tw, tx) := by unfold oneL; rw [hk]
      rw [ho]
      clear hk ho
      rw [show (([] : List UInt8).isEmpty) = true from rfl] at hem
      show Calls Tryd.prog _ _ _ fun e w' => e = .returned (.tuple #[.agg #[.bool tw, .string (mkS tx)], .int .i64 0]) ∧ _
      revert HC hem
      generalize mkS ([] : List UInt8) = sb
      generalize mkS tx = sx
      intro HC hem
      go_enter Tryd.func12, Tryd.ntmps12
      go_wp2_with fail
      refine (HC.out _).mono ?_
      rintro e w2 ⟨rfl, hb2⟩
      rw [hsz] at hb2
      have HK := Lib.hid (res_blk0 hb2)
      have HB := Lib.hid (res_bel0 hb2)
      have hlt : w.heap.size < w2.heap.size := by have := hb2.size; rw [hsz] at this; omega
      clear hb2
      have hne : w.heap.size ≠ w2.heap.size := by omega
      have c0 := cell_of_row _ _ 0 _ _ _ HK.out
      have c1 := cell_of_row _ _ 1 _ _ _ HK.out
      have z0 := frz2 HK.out 0
      have z1 := frz2 HK.out 1
      go_wp2
      have H2 := set2a (.cells #[.bool tw, .string sx] 28) HK.out (.bool tw) (.string sx)
      have d0 := cell_of_row _ _ 0 _ _ _ H2
      have d1 := cell_of_row _ _ 1 _ _ _ H2
      clear c0 c1 z0 z1
      refine bodyPost_ret (v := .tuple #[.agg #[.bool tw, .string sx], .int .i64 0]) (by simp [results, Tryd.results12, go_sem, d0, d1]) rfl ⟨rfl, ?_⟩
      exact ((HB.out.setCell (p := ⟨w.heap.size, 0, none⟩) (Nat.le_refl _) _).setCell (p := ⟨w.heap.size, 1, none⟩) (Nat.le_refl _) _).alloc (by simp [World.setCell]; omega) _
    | cons c r =>
      have ho : oneL s.data.toList = none := by unfold oneL; rw [hk]
      rw [ho]
      clear hk ho
      rw [show ((c :: r).isEmpty) = false from rfl] at hem
      show Calls Tryd.prog _ _ _ fun e w' => e = .returned (.tuple #[.agg #[.bool false, .string ⟨#[]⟩], .int .i64 3]) ∧ _
      revert HC hem
      generalize mkS (c :: r) = sb
      generalize mkS tx = sx
      intro HC hem
      go_enter Tryd.func12, Tryd.ntmps12
      go_wp2_with fail
      refine (HC.out _).mono ?_
      rintro e w2 ⟨rfl, hb2⟩
      rw [hsz] at hb2
      have HK := Lib.hid (res_blk0 hb2)
      have HB := Lib.hid (res_bel0 hb2)
      have hlt : w.heap.size < w2.heap.size := by have := hb2.size; rw [hsz] at this; omega
      clear hb2
      have hne : w.heap.size ≠ w2.heap.size := by omega
      have c0 := cell_of_row _ _ 0 _ _ _ HK.out
      have c1 := cell_of_row _ _ 1 _ _ _ HK.out
      have z0 := frz2 HK.out 0
      have z1 := frz2 HK.out 1
      go_wp2
      have H2 := set2a (.cells #[.bool tw, .string sx] 28) HK.out (.bool false) (.string ⟨#[]⟩)
      have d0 := cell_of_row _ _ 0 _ _ _ H2
      have d1 := cell_of_row _ _ 1 _ _ _ H2
      clear c0 c1 z0 z1
      refine bodyPost_ret (v := .tuple #[.agg #[.bool false, .string ⟨#[]⟩], .int .i64 3]) (by simp [results, Tryd.results12, go_sem, d0, d1]) rfl ⟨rfl, ?_⟩
      exact ((HB.out.setCell (p := ⟨w.heap.size, 0, none⟩) (Nat.le_refl _) _).setCell (p := ⟨w.heap.size, 1, none⟩) (Nat.le_refl _) _).alloc (by simp [World.setCell]; omega) _
end Go.Proofs.YtojmjdgapfcjfaaDoor.Et
