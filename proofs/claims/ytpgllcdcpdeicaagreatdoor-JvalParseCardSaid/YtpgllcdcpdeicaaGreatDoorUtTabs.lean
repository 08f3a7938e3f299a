/- The two tables of package utf as the walks read them, rows of bytes, and the contracts of firstOf and goesOn: for every byte, where the tables lie as the program's text lays them. -/
import Derived.Test.YtpgllcdcpdeicaaGreatDoorRows
import Derived.WalkKit
import Derived.WalkSpells
import Derived.Lib.Hide
import Derived.Lib.Strings
import Derived.Deep.QuietTactic
import Derived.BigQuiet
import Derived.WalkSmall
namespace Go.Proofs.YtpgllcdcpdeicaaGreatDoor.Ut
open Go.RowKit
set_option linter.unusedSimpArgs false
set_option linter.unusedVariables false

theorem ret_bool {a b : Bool} (h : a = b) : Ending.returned (.bool a) = .returned (.bool b) := by rw [h]

def leadsV : Array Value := #[.int .u8 0, .int .u8 0, .int .u8 192, .int .u8 224, .int .u8 240]
def firstsV : Array Value := #[.int .u8 0, .int .u8 127, .int .i64 1, .int .u8 0, .int .u8 0, .int .u8 194, .int .u8 223, .int .i64 2, .int .u8 128, .int .u8 191, .int .u8 224, .int .u8 224, .int .i64 3, .int .u8 160, .int .u8 191,
  .int .u8 225, .int .u8 236, .int .i64 3, .int .u8 128, .int .u8 191, .int .u8 237, .int .u8 237, .int .i64 3, .int .u8 128, .int .u8 159, .int .u8 238, .int .u8 239, .int .i64 3, .int .u8 128, .int .u8 191,
  .int .u8 240, .int .u8 240, .int .i64 4, .int .u8 144, .int .u8 191, .int .u8 241, .int .u8 243, .int .i64 4, .int .u8 128, .int .u8 191, .int .u8 244, .int .u8 244, .int .i64 4, .int .u8 128, .int .u8 143]
/-- the tables lie as the program's text lays them -/
def Tabs (w : World) : Prop := (∃ t f, w.heap[1]? = some (.cells leadsV t f)) ∧ ∃ t f, w.heap[3]? = some (.cells firstsV t f)
theorem Tabs.two {w : World} (h : Tabs w) : max (1 + 1) (3 + 1) ≤ w.heap.size := by
  obtain ⟨⟨t0, f0, h0⟩, t, f, h1⟩ := h
  have a := (Array.getElem?_eq_some_iff.1 h1).1
  have b := (Array.getElem?_eq_some_iff.1 h0).1
  omega
theorem Tabs.below {B : Nat} {w w' : World} (h : Tabs w) (hb : Below B w w') (hB : max (1 + 1) (3 + 1) ≤ B) : Tabs w' := by
  obtain ⟨⟨t, f, h0⟩, t1, f1, h1⟩ := h
  exact ⟨⟨t, f, (hb.block 1 (by omega)).trans h0⟩, t1, f1, (hb.block 3 (by omega)).trans h1⟩
theorem Tabs.go {w w' : World} (h : Tabs w) (hb : Below w.heap.size w w') : Tabs w' := h.below hb h.two
theorem Tabs.drew {w : World} (h : Tabs w) : Tabs w.drew := h
theorem Tabs.alloc {w : World} (h : Tabs w) (o : Obj) : Tabs (w.alloc o) := h.go ((Below.refl _ _).alloc (Nat.le_refl _) o)

/-- what the table says of a first byte: size, and the bounds of the second byte -/
structure Fst where
  a : Int
  b : Int
  s : Int
  l : Int
  h : Int
def rowsL : List Fst := [⟨0, 127, 1, 0, 0⟩, ⟨194, 223, 2, 128, 191⟩, ⟨224, 224, 3, 160, 191⟩, ⟨225, 236, 3, 128, 191⟩, ⟨237, 237, 3, 128, 159⟩, ⟨238, 239, 3, 128, 191⟩, ⟨240, 240, 4, 144, 191⟩, ⟨241, 243, 4, 128, 191⟩, ⟨244, 244, 4, 128, 143⟩]
def fstV (f : Fst) : Value := .agg #[.int .u8 f.a, .int .u8 f.b, .int .i64 f.s, .int .u8 f.l, .int .u8 f.h]
def rowK (k : Nat) : Fst := rowsL.getD k ⟨0, 0, 0, 0, 0⟩
theorem idx_row0 : ∀ W : World, (Instr.index 184 (.agg firstsV) (.int .i64 0)).run Tryz.prog W = .ok (fstV (rowK 0)) W := fun _ => by kernel_rfl
theorem idx_row1 : ∀ W : World, (Instr.index 184 (.agg firstsV) (.int .i64 1)).run Tryz.prog W = .ok (fstV (rowK 1)) W := fun _ => by kernel_rfl
theorem idx_row2 : ∀ W : World, (Instr.index 184 (.agg firstsV) (.int .i64 2)).run Tryz.prog W = .ok (fstV (rowK 2)) W := fun _ => by kernel_rfl
theorem idx_row3 : ∀ W : World, (Instr.index 184 (.agg firstsV) (.int .i64 3)).run Tryz.prog W = .ok (fstV (rowK 3)) W := fun _ => by kernel_rfl
theorem idx_row4 : ∀ W : World, (Instr.index 184 (.agg firstsV) (.int .i64 4)).run Tryz.prog W = .ok (fstV (rowK 4)) W := fun _ => by kernel_rfl
theorem idx_row5 : ∀ W : World, (Instr.index 184 (.agg firstsV) (.int .i64 5)).run Tryz.prog W = .ok (fstV (rowK 5)) W := fun _ => by kernel_rfl
theorem idx_row6 : ∀ W : World, (Instr.index 184 (.agg firstsV) (.int .i64 6)).run Tryz.prog W = .ok (fstV (rowK 6)) W := fun _ => by kernel_rfl
theorem idx_row7 : ∀ W : World, (Instr.index 184 (.agg firstsV) (.int .i64 7)).run Tryz.prog W = .ok (fstV (rowK 7)) W := fun _ => by kernel_rfl
theorem idx_row8 : ∀ W : World, (Instr.index 184 (.agg firstsV) (.int .i64 8)).run Tryz.prog W = .ok (fstV (rowK 8)) W := fun _ => by kernel_rfl
theorem idx_row (k : Nat) (hk : k < 9) : ∀ W : World, (Instr.index 184 (.agg firstsV) (.int .i64 (k : Int))).run Tryz.prog W = .ok (fstV (rowK k)) W := by
  match k, hk with
  | 0, _ => exact idx_row0
  | 1, _ => exact idx_row1
  | 2, _ => exact idx_row2
  | 3, _ => exact idx_row3
  | 4, _ => exact idx_row4
  | 5, _ => exact idx_row5
  | 6, _ => exact idx_row6
  | 7, _ => exact idx_row7
  | 8, _ => exact idx_row8

def hitB (c : Int) (f : Fst) : Bool := decide (f.a ≤ c ∧ c ≤ f.b)
def rowOf (c : Int) : Option Fst := rowsL.find? (hitB c)
theorem rowK_eq (k : Nat) (hk : k < 9) : rowK k = rowsL[k]'hk := by
  unfold rowK
  simp [List.getD, List.getElem?_eq_getElem (show k < rowsL.length from hk)]
  rfl
theorem find_at (c : Int) (k : Nat) (hk : k < 9) (hno : ∀ j, j < k → hitB c (rowK j) = false) (h : hitB c (rowK k) = true) : rowOf c = some (rowK k) := by
  unfold rowOf
  rw [List.find?_eq_some_iff_getElem]
  refine ⟨h, k, hk, (rowK_eq k hk).symm, fun j hj => ?_⟩
  have := hno j hj
  rw [rowK_eq j (by omega)] at this
  simp
  exact this
theorem find_no (c : Int) (hno : ∀ j, j < 9 → hitB c (rowK j) = false) : rowOf c = none := by
  unfold rowOf
  rw [List.find?_eq_none]
  intro f hf
  obtain ⟨j, hj, rfl⟩ := List.getElem_of_mem hf
  have := hno j hj
  rw [rowK_eq j hj] at this
  simp [this]

def zeroF : Fst := ⟨0, 0, 0, 0, 0⟩
/-- what firstOf hands back -/
def FPost (c : Int) (w : World) (e : Ending) (w' : World) : Prop :=
  (match rowOf c with | some f => e = .returned (.tuple #[fstV f, .bool true]) | none => e = .returned (.tuple #[fstV zeroF, .bool false])) ∧ Below w.heap.size w w'

def FRel (c : Int) (w : World) (k : Nat) (wr : World) : Prop :=
  (∀ j, j < k → hitB c (rowK j) = false) ∧ wr.heap[w.heap.size]? = some (.cells #[.int .u8 0, .int .u8 0, .int .i64 0, .int .u8 0, .int .u8 0] 179 (0, 0)) ∧ Below w.heap.size w wr

theorem blk_cell {w : World} {g : Nat} {cs : Array Value} {t : TypeId} {f : Nat × Nat} (h : w.heap[g]? = some (.cells cs t f)) (i : Nat) : w.cell? ⟨g, i, none⟩ = cs[i]? := cell_of_row w g i cs t f h
theorem blk_frz {w : World} {g : Nat} {cs : Array Value} {t : TypeId} (h : w.heap[g]? = some (.cells cs t (0, 0))) (i : Nat) : w.frozen? ⟨g, i, none⟩ = false := by simp [World.frozen?, h]

theorem frel_step {c : Int} {w wr : World} {k : Nat} (hn : ∀ j, j < k → hitB c (rowK j) = false) (h : hitB c (rowK k) = false)
    (hk : wr.heap[w.heap.size]? = some (.cells #[.int .u8 0, .int .u8 0, .int .i64 0, .int .u8 0, .int .u8 0] 179 (0, 0))) (hB : Below w.heap.size w wr) (hg : w.heap.size < wr.heap.size) (o : Obj) : FRel c w (k + 1) (wr.alloc o) := by
  refine ⟨fun j hj => ?_, (Below.heap_alloc wr o _ hg).trans hk, hB.alloc (by omega) o⟩
  by_cases e : j = k
  · subst e; exact h
  · exact hn j (by omega)

theorem blk_set {w : World} {g : Nat} {cs : Array Value} {t : TypeId} {f : Nat × Nat} (h : w.heap[g]? = some (.cells cs t f)) (i : Nat) (u : Value) : (w.setCell ⟨g, i, none⟩ u).heap[g]? = some (.cells (cs.setIfInBounds i u) t f) := by
  simp [World.setCell, Array.getElem?_modify, h]
theorem five {w : World} {g : Nat} {t : TypeId} {f : Nat × Nat} {x0 x1 x2 x3 x4 : Value} (h : w.heap[g]? = some (.cells #[x0, x1, x2, x3, x4] t f)) (v0 v1 v2 v3 v4 : Value) :
    (((((w.setCell ⟨g, 0, none⟩ v0).setCell ⟨g, 1, none⟩ v1).setCell ⟨g, 2, none⟩ v2).setCell ⟨g, 3, none⟩ v3).setCell ⟨g, 4, none⟩ v4).heap[g]? = some (.cells #[v0, v1, v2, v3, v4] t f) := by
  have := blk_set (blk_set (blk_set (blk_set (blk_set h 0 v0) 1 v1) 2 v2) 3 v3) 4 v4
  simpa using this
theorem five_a {w : World} {g : Nat} {t : TypeId} {f : Nat × Nat} {x0 x1 x2 x3 x4 : Value} (h : w.heap[g]? = some (.cells #[x0, x1, x2, x3, x4] t f)) (v0 v1 v2 v3 v4 : Value) (o : Obj) :
    ((((((w.setCell ⟨g, 0, none⟩ v0).setCell ⟨g, 1, none⟩ v1).setCell ⟨g, 2, none⟩ v2).setCell ⟨g, 3, none⟩ v3).setCell ⟨g, 4, none⟩ v4).alloc o).heap[g]? = some (.cells #[v0, v1, v2, v3, v4] t f) := by
  have h5 := five h v0 v1 v2 v3 v4
  exact (Below.heap_alloc _ o g (Array.getElem?_eq_some_iff.1 h5).1).trans h5

set_option maxRecDepth 100000 in
set_option maxHeartbeats 2000000 in
theorem firstOf_c (c : Int) (w : World) (hT : Tabs w) (h0 : 0 ≤ c) (h1 : c ≤ 255) : Calls Tryz.prog 100 #[.int .u8 c] w (FPost c w) := by
  obtain ⟨t1, f1, hg1⟩ := hT.2
  have h2 := hT.two
  have HG := Lib.hid hg1
  clear hg1
  have HST : Hid (FRel c w 0 (w.alloc (.cells #[.int .u8 0, .int .u8 0, .int .i64 0, .int .u8 0, .int .u8 0] 179))) :=
    ⟨fun j hj => by omega, heap_alloc_new w _, (Below.refl _ _).alloc (Nat.le_refl _) _⟩
  go_enter Tryz.func100, Tryz.ntmps100
  go_wp2_with (refine wpList_load_row rfl 184 _ rfl 3 rfl t1 firstsV f1 _ (by exact (Below.heap_alloc _ _ 3 (by omega)).trans HG.out) Tryz.underlying184 rfl (by kernel_rfl) ?_)
  go_loopw [7] (fun i wr => ∃ k : Nat, k ≤ 9 ∧ i = .int .i64 k ∧ FRel c w k wr) (fun i _ => 9 - (intOf i).toNat)
  case atStart => exact ⟨0, by omega, rfl, HST.out⟩
  case round =>
    clear HST HG
    obtain ⟨k, hk, rfl, hno, hblk, hB⟩ := hrel
    have HN := Lib.hid hno
    have HBK := Lib.hid hblk
    have HB := Lib.hid hB
    have hgs : w.heap.size < wr.heap.size := (Array.getElem?_eq_some_iff.1 hblk).1
    clear hno hblk hB
    by_cases hlt : k < 9
    · have hix := idx_row k hlt
      have HF := Lib.hid (find_at c k hlt HN.out)
      have HH : Hid (hitB c (rowK k) = decide ((rowK k).a ≤ c ∧ c ≤ (rowK k).b)) := rfl
      revert hix HF HH
      generalize hrw : rowK k = f
      have HRW := Lib.hid hrw
      clear hrw
      intro hix HF HH
      obtain ⟨fa, fb, fs, fl, fh⟩ := f
      simp only [fstV] at hix
      by_cases ha : fa ≤ c
      · by_cases hb : c ≤ fb
        · have c0 : wr.cell? ⟨w.heap.size, 0, none⟩ = some (.int .u8 0) := blk_cell HBK.out 0
          have c1 : wr.cell? ⟨w.heap.size, 1, none⟩ = some (.int .u8 0) := blk_cell HBK.out 1
          have c2 : wr.cell? ⟨w.heap.size, 2, none⟩ = some (.int .i64 0) := blk_cell HBK.out 2
          have c3 : wr.cell? ⟨w.heap.size, 3, none⟩ = some (.int .u8 0) := blk_cell HBK.out 3
          have c4 : wr.cell? ⟨w.heap.size, 4, none⟩ = some (.int .u8 0) := blk_cell HBK.out 4
          have z0 : wr.frozen? ⟨w.heap.size, 0, none⟩ = false := blk_frz HBK.out 0
          have z1 : wr.frozen? ⟨w.heap.size, 1, none⟩ = false := blk_frz HBK.out 1
          have z2 : wr.frozen? ⟨w.heap.size, 2, none⟩ = false := blk_frz HBK.out 2
          have z3 : wr.frozen? ⟨w.heap.size, 3, none⟩ = false := blk_frz HBK.out 3
          have z4 : wr.frozen? ⟨w.heap.size, 4, none⟩ = false := blk_frz HBK.out 4
          go_wp2
          have H5 := five_a HBK.out (.int .u8 fa) (.int .u8 fb) (.int .i64 fs) (.int .u8 fl) (.int .u8 fh) (.cells #[.int .u8 fa, .int .u8 fb, .int .i64 fs, .int .u8 fl, .int .u8 fh] 179)
          have d0 := blk_cell H5 0
          have d1 := blk_cell H5 1
          have d2 := blk_cell H5 2
          have d3 := blk_cell H5 3
          have d4 := blk_cell H5 4
          refine bodyPost_ret (v := .tuple #[fstV ⟨fa, fb, fs, fl, fh⟩, .bool true]) (by simp [results, Tryz.results100, go_sem, fstV, d0, d1, d2, d3, d4]) rfl ?_
          refine ⟨?_, ?_⟩
          · rw [HF.out (by rw [HH.out]; simp [ha, hb])]
          · refine Below.alloc ?_ ?_ _
            · exact ((((HB.out.setCell (by simp) _).setCell (by simp) _).setCell (by simp) _).setCell (by simp) _).setCell (by simp) _
            · simp; omega
        · have hd : decide (c ≤ fb) = false := by simpa using hb
          have HNO : Hid (hitB c ⟨fa, fb, fs, fl, fh⟩ = false) := by show hitB c ⟨fa, fb, fs, fl, fh⟩ = false; rw [HH.out]; simp [hb]
          go_wp2
          go_roundw
          case rel => exact ⟨k + 1, by omega, by go_num, frel_step HN.out (by rw [HRW.out]; exact HNO.out) HBK.out HB.out hgs _⟩
          case measure => simp [intOf]; omega
      · have hd : decide (fa ≤ c) = false := by simpa using ha
        have HNO : Hid (hitB c ⟨fa, fb, fs, fl, fh⟩ = false) := by show hitB c ⟨fa, fb, fs, fl, fh⟩ = false; rw [HH.out]; simp [ha]
        go_wp2
        go_roundw
        case rel => exact ⟨k + 1, by omega, by go_num, frel_step HN.out (by rw [HRW.out]; exact HNO.out) HBK.out HB.out hgs _⟩
        case measure => simp [intOf]; omega
    · have HK : Hid (k = 9) := by show k = 9; omega
      have c0 : wr.cell? ⟨w.heap.size, 0, none⟩ = some (.int .u8 0) := blk_cell HBK.out 0
      have c1 : wr.cell? ⟨w.heap.size, 1, none⟩ = some (.int .u8 0) := blk_cell HBK.out 1
      have c2 : wr.cell? ⟨w.heap.size, 2, none⟩ = some (.int .i64 0) := blk_cell HBK.out 2
      have c3 : wr.cell? ⟨w.heap.size, 3, none⟩ = some (.int .u8 0) := blk_cell HBK.out 3
      have c4 : wr.cell? ⟨w.heap.size, 4, none⟩ = some (.int .u8 0) := blk_cell HBK.out 4
      have z0 : wr.frozen? ⟨w.heap.size, 0, none⟩ = false := blk_frz HBK.out 0
      have z1 : wr.frozen? ⟨w.heap.size, 1, none⟩ = false := blk_frz HBK.out 1
      have z2 : wr.frozen? ⟨w.heap.size, 2, none⟩ = false := blk_frz HBK.out 2
      have z3 : wr.frozen? ⟨w.heap.size, 3, none⟩ = false := blk_frz HBK.out 3
      have z4 : wr.frozen? ⟨w.heap.size, 4, none⟩ = false := blk_frz HBK.out 4
      go_wp2
      have H5 := five HBK.out (.int .u8 0) (.int .u8 0) (.int .i64 0) (.int .u8 0) (.int .u8 0)
      have d0 := blk_cell H5 0
      have d1 := blk_cell H5 1
      have d2 := blk_cell H5 2
      have d3 := blk_cell H5 3
      have d4 := blk_cell H5 4
      refine bodyPost_ret (v := .tuple #[fstV zeroF, .bool false]) (by simp [results, Tryz.results100, go_sem, fstV, zeroF, d0, d1, d2, d3, d4]) rfl ?_
      refine ⟨?_, ?_⟩
      · rw [find_no c (fun j hj => HN.out j (by rw [HK.out]; exact hj))]
      · exact ((((HB.out.setCell (by simp) _).setCell (by simp) _).setCell (by simp) _).setCell (by simp) _).setCell (by simp) _
end Go.Proofs.YtpgllcdcpdeicaaGreatDoor.Ut
