/-
  EtagParse (P9.1): for every text, package etag's One and Parse answer what the document's own One and Parse answer (of the text's first eighty bytes), and chapter 9's example comes out. Condition: the listed variables of the library lie as the program's text lays them (tied card).
-/
import Derived.Test.YtojmjdgapfcjfaaDoorCards
import Derived.Test.YtojmjdgapfcjfaaDoorTie
import Derived.Test.YtojmjdgapfcjfaaDoorNuLaid
import Derived.ShutString
import Derived.ChangeOld
import Derived.SevenTiedAt
import Derived.Test.YtojmjdgapfcjfaaDoorEtAwake
namespace Go.Proofs.YtojmjdgapfcjfaaDoor.etagParse
open Go.ChangeShapes Go.WideShapes Go.ChangeAt Go.RowKit
open Go.ChangeMaps (open_string shut_string)
open Go.Proofs.YtojmjdgapfcjfaaDoor.Ch
open Go.Proofs.YtojmjdgapfcjfaaDoor.Et
set_option linter.unusedVariables false
set_option linter.unusedSimpArgs false

theorem own : ownKnob Tryd.prog.godebug = none := by kernel_rfl
theorem laidOut : laidOutB Tryd.prog = true := by kernel_rfl

theorem new2 (w : World) (a b : Value) (T : TypeId) : (w.alloc (.cells #[a, b] T)).cell? ⟨w.heap.size, 0, none⟩ = some a ∧ (w.alloc (.cells #[a, b] T)).cell? ⟨w.heap.size, 1, none⟩ = some b := by
  have hk := heap_alloc_new w (.cells #[a, b] T)
  exact ⟨cell_of_row _ _ 0 _ _ _ hk, cell_of_row _ _ 1 _ _ _ hk⟩
theorem owt_max {T : TypeId} {B : Nat} {v : Value} {ts : List TagL} {w : World} (h : OwT T B v ts w) : ts.length ≤ maxLen := by
  rcases h.2 with ⟨rfl, h0⟩ | ⟨g, cap, cur, rfl, hB, hg, hc, hcm, hsz, htk⟩
  · omega
  · exact Nat.le_trans hc hcm
theorem own_n {T : TypeId} {B : Nat} {ao : Option Addr} {n c : Nat} {ts : List TagL} {w : World} (h : OwT T B (.slice ao n c) ts w) : n = ts.length := by
  obtain ⟨a, b, e⟩ := own_len h
  injection e
theorem bdrw {B : Nat} {w w' : World} (h : Below B w w') (n : Nat) : Below B w (w'.drewN n) := ⟨h.os, h.tape, h.output, h.size, h.block⟩
set_option maxRecDepth 100000 in
set_option maxHeartbeats 8000000 in
theorem walkfalsefalse (s x : ByteArray) (b an : Bool) (ts : List TagL) (a0 : ByteArray) (w : World) (hs : Tryd.prog.stoodInHeld 28 = false)
    (hsh : Hid (∀ W, Calls Tryd.prog 8 #[.string a0] W fun e w' => e = .returned (.string s) ∧ W = w'))
    (HO : Hid (∀ W, Calls Tryd.prog 12 #[.string s] W fun e w' => e = .returned (.tuple #[.agg #[.bool b, .string x], .int .i64 3]) ∧ Below W.heap.size W w'))
    (HR : Hid (∀ W, Calls Tryd.prog 14 #[.string s] W fun e w' => e = .returned (.tuple #[.agg #[.bool b, .string x], .bool false]) ∧ Below W.heap.size W w'))
    (HP : Hid (∀ W, Calls Tryd.prog 15 #[.string s] W fun e w' => ∃ ao n c, e = .returned (.tuple #[.agg #[.bool an, .slice ao n c], .int .i64 3]) ∧ OwT 28 W.heap.size (.slice ao n c) ts w' ∧ Below W.heap.size W w'))
    (HPR : Hid (∀ W, Calls Tryd.prog 16 #[.string s] W fun e w' => ∃ ao n c, e = .returned (.tuple #[.bool an, .slice ao n c, .bool false]) ∧ OwT 23 W.heap.size (.slice ao n c) ts w' ∧ Below W.heap.size W w'))
    (HT : Hid (Nu.Tabs w)) (hts : ts = []) :
    Calls Tryd.prog 4 #[.string a0] w fun e w' => e = .returned (.bool true) ∧ Below w.heap.size w w' := by
  have HTS := Lib.hid hts
  clear hts
  go_enter Tryd.func4, Tryd.ntmps4
  go_wp2_with fail
  refine (hsh.out _).mono ?_
  rintro e w' ⟨rfl, rfl⟩
  go_wp2_with fail
  refine (HO.out _).mono ?_
  rintro e w1 ⟨rfl, hb1⟩
  have HB1 := Lib.hid hb1
  clear hb1
  obtain ⟨c0, c1⟩ := new2 w1 (.bool b) (.string x) 28
  go_wp2_with fail
  refine (HR.out _).mono ?_
  rintro e w2 ⟨rfl, hb2⟩
  have hl1 : w1.heap.size < w2.heap.size := by have := hb2.size; rw [World.size_alloc] at this; omega
  have hn1 : w1.heap.size ≠ w2.heap.size := by omega
  have d0 : w2.cell? ⟨w1.heap.size, 0, none⟩ = some (.bool b) := (hb2.cell (p := ⟨w1.heap.size, 0, none⟩) (by rw [World.size_alloc]; exact Nat.lt_succ_self _)).trans c0
  have d1 : w2.cell? ⟨w1.heap.size, 1, none⟩ = some (.string x) := (hb2.cell (p := ⟨w1.heap.size, 1, none⟩) (by rw [World.size_alloc]; exact Nat.lt_succ_self _)).trans c1
  have HB2 : Hid (Below w.heap.size w w2) := (HB1.out.alloc HB1.out.size _).trans (hb2.mono (by rw [World.size_alloc]; have := HB1.out.size; omega))
  clear hb2 c0 c1
  have HB3 : Hid (Below w.heap.size w (w2.alloc (.cells #[.bool b, .string x] 23))) := HB2.out.alloc HB2.out.size _
  go_wp2_with fail
  refine (HP.out _).mono ?_
  rintro e w4 ⟨ao, n, c, rfl, ho4, hb4⟩
  have HO4 := Lib.hid ho4
  have HB4 : Hid (Below w.heap.size w w4) := HB3.out.trans (hb4.mono HB3.out.size)
  clear ho4 hb4 d0 d1 hl1 hn1
  obtain ⟨c0, c1⟩ := new2 w4 (.bool an) (.slice ao n c) 39
  have HB5 : Hid (Below w.heap.size w (w4.alloc (.cells #[.bool an, .slice ao n c] 39))) := HB4.out.alloc HB4.out.size _
  have HO5 : Hid (OwT 28 _ (.slice ao n c) ts (w4.alloc (.cells #[.bool an, .slice ao n c] 39))) := HO4.out.go ((Below.refl _ _).alloc (Nat.le_refl _) _)
  go_wp2_with fail
  refine (HPR.out _).mono ?_
  rintro e w6 ⟨ao2, n2, cp2, rfl, ho6, hb6⟩
  have hl4 : w4.heap.size < w6.heap.size := by have := hb6.size; rw [World.size_alloc] at this; omega
  have d0 : w6.cell? ⟨w4.heap.size, 0, none⟩ = some (.bool an) := (hb6.cell (p := ⟨w4.heap.size, 0, none⟩) (by rw [World.size_alloc]; exact Nat.lt_succ_self _)).trans c0
  have d1 : w6.cell? ⟨w4.heap.size, 1, none⟩ = some (.slice ao n c) := (hb6.cell (p := ⟨w4.heap.size, 1, none⟩) (by rw [World.size_alloc]; exact Nat.lt_succ_self _)).trans c1
  have HB6 : Hid (Below w.heap.size w w6) := HB5.out.trans (hb6.mono HB5.out.size)
  have HO6 := Lib.hid (HO5.out.go hb6)
  have HQ6 := Lib.hid ho6
  have hln := owt_max HO6.out
  obtain rfl := own_n HO6.out
  obtain rfl := own_n HQ6.out
  unfold maxLen at hln
  clear hb6 ho6 c0 c1 HO4 HO5
  go_wp2
  go_loopw [70] (fun v wr => ∃ j : Nat, j ≤ ts.length ∧ v = .int .i64 j ∧ Below w6.heap.size w6 wr) (fun v _ => ts.length - (intOf v).toNat)
  case atStart => exact ⟨0, by omega, rfl, Below.refl _ _⟩
  case round =>
    obtain ⟨j, hj, rfl, hB⟩ := hrel
    have k0 : wr.cell? ⟨w4.heap.size, 0, none⟩ = some (.bool an) := (hB.cell (p := ⟨w4.heap.size, 0, none⟩) hl4).trans d0
    have k1 : wr.cell? ⟨w4.heap.size, 1, none⟩ = some (.slice ao ts.length c) := (hB.cell (p := ⟨w4.heap.size, 1, none⟩) hl4).trans d1
    by_cases hlt : j < ts.length
    · obtain ⟨g1, c1, e1, hg1, _, hc1, hat1⟩ := owt_at HO6.out (by omega)
      obtain ⟨g2, c2, e2, hg2, _, hc2, hat2⟩ := owt_at HQ6.out (by omega)
      injection e1 with e1a e1b e1c
      injection e2 with e2a e2b e2c
      subst e1a e2a e1c e2c
      have p0 : wr.cell? ⟨g1, j * 2, none⟩ = some (.bool ts[j].1) := (hB.cell (p := ⟨g1, j * 2, none⟩) hg1).trans (hat1 j hlt).1
      have p1 : wr.cell? ⟨g1, j * 2 + 1, none⟩ = some (.string (mkS ts[j].2)) := (hB.cell (p := ⟨g1, j * 2 + 1, none⟩) hg1).trans (hat1 j hlt).2
      have r0 : wr.cell? ⟨g2, j * 2, none⟩ = some (.bool ts[j].1) := (hB.cell (p := ⟨g2, j * 2, none⟩) hg2).trans (hat2 j hlt).1
      have r1 : wr.cell? ⟨g2, j * 2 + 1, none⟩ = some (.string (mkS ts[j].2)) := (hB.cell (p := ⟨g2, j * 2 + 1, none⟩) hg2).trans (hat2 j hlt).2
      have HB := Lib.hid hB
      clear hB hat1 hat2 d0 d1
      revert p0 p1 r0 r1
      generalize mkS ts[j].2 = xx
      generalize ts[j].1 = bb
      intro p0 p1 r0 r1
      have hj0 : (0 : Int) ≤ (j : Int) := by omega
      have hjl : (j : Int) < (ts.length : Int) := by omega
      go_wp2
      go_quiet (fail)
      go_wp2
      go_roundw
      case rel => exact ⟨j + 1, by omega, by go_num, bdrw HB.out _⟩
      case measure => simp [intOf]; omega
    · have HB : Hid (Below w.heap.size w wr) := HB6.out.trans (hB.mono HB6.out.size)
      have HTW : Hid (Nu.Tabs wr) := HT.out.below HB.out (Nat.le_refl _)
      clear hB d0 d1
      obtain rfl : ts = [] := HTS.out
      go_wp2_with fail
      refine (awake_c _ HTW.out).mono ?_
      rintro e w9 ⟨rfl, hb9⟩
      have HB9 := Lib.hid hb9
      clear hb9
      go_wp2
      go_ret
      exact ⟨rfl, HB.out.trans (HB9.out.mono HB.out.size)⟩
set_option maxRecDepth 100000 in
set_option maxHeartbeats 8000000 in
theorem walkfalsetrue (s x : ByteArray) (b an : Bool) (ts : List TagL) (a0 : ByteArray) (w : World) (hs : Tryd.prog.stoodInHeld 28 = false)
    (hsh : Hid (∀ W, Calls Tryd.prog 8 #[.string a0] W fun e w' => e = .returned (.string s) ∧ W = w'))
    (HO : Hid (∀ W, Calls Tryd.prog 12 #[.string s] W fun e w' => e = .returned (.tuple #[.agg #[.bool b, .string x], .int .i64 3]) ∧ Below W.heap.size W w'))
    (HR : Hid (∀ W, Calls Tryd.prog 14 #[.string s] W fun e w' => e = .returned (.tuple #[.agg #[.bool b, .string x], .bool false]) ∧ Below W.heap.size W w'))
    (HP : Hid (∀ W, Calls Tryd.prog 15 #[.string s] W fun e w' => ∃ ao n c, e = .returned (.tuple #[.agg #[.bool an, .slice ao n c], .int .i64 0]) ∧ OwT 28 W.heap.size (.slice ao n c) ts w' ∧ Below W.heap.size W w'))
    (HPR : Hid (∀ W, Calls Tryd.prog 16 #[.string s] W fun e w' => ∃ ao n c, e = .returned (.tuple #[.bool an, .slice ao n c, .bool true]) ∧ OwT 23 W.heap.size (.slice ao n c) ts w' ∧ Below W.heap.size W w'))
    (HT : Hid (Nu.Tabs w)) (hts : True) :
    Calls Tryd.prog 4 #[.string a0] w fun e w' => e = .returned (.bool true) ∧ Below w.heap.size w w' := by
  go_enter Tryd.func4, Tryd.ntmps4
  go_wp2_with fail
  refine (hsh.out _).mono ?_
  rintro e w' ⟨rfl, rfl⟩
  go_wp2_with fail
  refine (HO.out _).mono ?_
  rintro e w1 ⟨rfl, hb1⟩
  have HB1 := Lib.hid hb1
  clear hb1
  obtain ⟨c0, c1⟩ := new2 w1 (.bool b) (.string x) 28
  go_wp2_with fail
  refine (HR.out _).mono ?_
  rintro e w2 ⟨rfl, hb2⟩
  have hl1 : w1.heap.size < w2.heap.size := by have := hb2.size; rw [World.size_alloc] at this; omega
  have hn1 : w1.heap.size ≠ w2.heap.size := by omega
  have d0 : w2.cell? ⟨w1.heap.size, 0, none⟩ = some (.bool b) := (hb2.cell (p := ⟨w1.heap.size, 0, none⟩) (by rw [World.size_alloc]; exact Nat.lt_succ_self _)).trans c0
  have d1 : w2.cell? ⟨w1.heap.size, 1, none⟩ = some (.string x) := (hb2.cell (p := ⟨w1.heap.size, 1, none⟩) (by rw [World.size_alloc]; exact Nat.lt_succ_self _)).trans c1
  have HB2 : Hid (Below w.heap.size w w2) := (HB1.out.alloc HB1.out.size _).trans (hb2.mono (by rw [World.size_alloc]; have := HB1.out.size; omega))
  clear hb2 c0 c1
  have HB3 : Hid (Below w.heap.size w (w2.alloc (.cells #[.bool b, .string x] 23))) := HB2.out.alloc HB2.out.size _
  go_wp2_with fail
  refine (HP.out _).mono ?_
  rintro e w4 ⟨ao, n, c, rfl, ho4, hb4⟩
  have HO4 := Lib.hid ho4
  have HB4 : Hid (Below w.heap.size w w4) := HB3.out.trans (hb4.mono HB3.out.size)
  clear ho4 hb4 d0 d1 hl1 hn1
  obtain ⟨c0, c1⟩ := new2 w4 (.bool an) (.slice ao n c) 39
  have HB5 : Hid (Below w.heap.size w (w4.alloc (.cells #[.bool an, .slice ao n c] 39))) := HB4.out.alloc HB4.out.size _
  have HO5 : Hid (OwT 28 _ (.slice ao n c) ts (w4.alloc (.cells #[.bool an, .slice ao n c] 39))) := HO4.out.go ((Below.refl _ _).alloc (Nat.le_refl _) _)
  go_wp2_with fail
  refine (HPR.out _).mono ?_
  rintro e w6 ⟨ao2, n2, cp2, rfl, ho6, hb6⟩
  have hl4 : w4.heap.size < w6.heap.size := by have := hb6.size; rw [World.size_alloc] at this; omega
  have d0 : w6.cell? ⟨w4.heap.size, 0, none⟩ = some (.bool an) := (hb6.cell (p := ⟨w4.heap.size, 0, none⟩) (by rw [World.size_alloc]; exact Nat.lt_succ_self _)).trans c0
  have d1 : w6.cell? ⟨w4.heap.size, 1, none⟩ = some (.slice ao n c) := (hb6.cell (p := ⟨w4.heap.size, 1, none⟩) (by rw [World.size_alloc]; exact Nat.lt_succ_self _)).trans c1
  have HB6 : Hid (Below w.heap.size w w6) := HB5.out.trans (hb6.mono HB5.out.size)
  have HO6 := Lib.hid (HO5.out.go hb6)
  have HQ6 := Lib.hid ho6
  have hln := owt_max HO6.out
  obtain rfl := own_n HO6.out
  obtain rfl := own_n HQ6.out
  unfold maxLen at hln
  clear hb6 ho6 c0 c1 HO4 HO5
  go_wp2
  go_loopw [70] (fun v wr => ∃ j : Nat, j ≤ ts.length ∧ v = .int .i64 j ∧ Below w6.heap.size w6 wr) (fun v _ => ts.length - (intOf v).toNat)
  case atStart => exact ⟨0, by omega, rfl, Below.refl _ _⟩
  case round =>
    obtain ⟨j, hj, rfl, hB⟩ := hrel
    have k0 : wr.cell? ⟨w4.heap.size, 0, none⟩ = some (.bool an) := (hB.cell (p := ⟨w4.heap.size, 0, none⟩) hl4).trans d0
    have k1 : wr.cell? ⟨w4.heap.size, 1, none⟩ = some (.slice ao ts.length c) := (hB.cell (p := ⟨w4.heap.size, 1, none⟩) hl4).trans d1
    by_cases hlt : j < ts.length
    · obtain ⟨g1, c1, e1, hg1, _, hc1, hat1⟩ := owt_at HO6.out (by omega)
      obtain ⟨g2, c2, e2, hg2, _, hc2, hat2⟩ := owt_at HQ6.out (by omega)
      injection e1 with e1a e1b e1c
      injection e2 with e2a e2b e2c
      subst e1a e2a e1c e2c
      have p0 : wr.cell? ⟨g1, j * 2, none⟩ = some (.bool ts[j].1) := (hB.cell (p := ⟨g1, j * 2, none⟩) hg1).trans (hat1 j hlt).1
      have p1 : wr.cell? ⟨g1, j * 2 + 1, none⟩ = some (.string (mkS ts[j].2)) := (hB.cell (p := ⟨g1, j * 2 + 1, none⟩) hg1).trans (hat1 j hlt).2
      have r0 : wr.cell? ⟨g2, j * 2, none⟩ = some (.bool ts[j].1) := (hB.cell (p := ⟨g2, j * 2, none⟩) hg2).trans (hat2 j hlt).1
      have r1 : wr.cell? ⟨g2, j * 2 + 1, none⟩ = some (.string (mkS ts[j].2)) := (hB.cell (p := ⟨g2, j * 2 + 1, none⟩) hg2).trans (hat2 j hlt).2
      have HB := Lib.hid hB
      clear hB hat1 hat2 d0 d1
      revert p0 p1 r0 r1
      generalize mkS ts[j].2 = xx
      generalize ts[j].1 = bb
      intro p0 p1 r0 r1
      have hj0 : (0 : Int) ≤ (j : Int) := by omega
      have hjl : (j : Int) < (ts.length : Int) := by omega
      go_wp2
      go_quiet (fail)
      go_wp2
      go_roundw
      case rel => exact ⟨j + 1, by omega, by go_num, bdrw HB.out _⟩
      case measure => simp [intOf]; omega
    · have HB : Hid (Below w.heap.size w wr) := HB6.out.trans (hB.mono HB6.out.size)
      have HTW : Hid (Nu.Tabs wr) := HT.out.below HB.out (Nat.le_refl _)
      clear hB d0 d1
      go_wp2_with fail
      refine (awake_c _ HTW.out).mono ?_
      rintro e w9 ⟨rfl, hb9⟩
      have HB9 := Lib.hid hb9
      clear hb9
      go_wp2
      go_ret
      exact ⟨rfl, HB.out.trans (HB9.out.mono HB.out.size)⟩
set_option maxRecDepth 100000 in
set_option maxHeartbeats 8000000 in
theorem walktruefalse (s x : ByteArray) (b an : Bool) (ts : List TagL) (a0 : ByteArray) (w : World) (hs : Tryd.prog.stoodInHeld 28 = false)
    (hsh : Hid (∀ W, Calls Tryd.prog 8 #[.string a0] W fun e w' => e = .returned (.string s) ∧ W = w'))
    (HO : Hid (∀ W, Calls Tryd.prog 12 #[.string s] W fun e w' => e = .returned (.tuple #[.agg #[.bool b, .string x], .int .i64 0]) ∧ Below W.heap.size W w'))
    (HR : Hid (∀ W, Calls Tryd.prog 14 #[.string s] W fun e w' => e = .returned (.tuple #[.agg #[.bool b, .string x], .bool true]) ∧ Below W.heap.size W w'))
    (HP : Hid (∀ W, Calls Tryd.prog 15 #[.string s] W fun e w' => ∃ ao n c, e = .returned (.tuple #[.agg #[.bool an, .slice ao n c], .int .i64 3]) ∧ OwT 28 W.heap.size (.slice ao n c) ts w' ∧ Below W.heap.size W w'))
    (HPR : Hid (∀ W, Calls Tryd.prog 16 #[.string s] W fun e w' => ∃ ao n c, e = .returned (.tuple #[.bool an, .slice ao n c, .bool false]) ∧ OwT 23 W.heap.size (.slice ao n c) ts w' ∧ Below W.heap.size W w'))
    (HT : Hid (Nu.Tabs w)) (hts : ts = []) :
    Calls Tryd.prog 4 #[.string a0] w fun e w' => e = .returned (.bool true) ∧ Below w.heap.size w w' := by
  have HTS := Lib.hid hts
  clear hts
  go_enter Tryd.func4, Tryd.ntmps4
  go_wp2_with fail
  refine (hsh.out _).mono ?_
  rintro e w' ⟨rfl, rfl⟩
  go_wp2_with fail
  refine (HO.out _).mono ?_
  rintro e w1 ⟨rfl, hb1⟩
  have HB1 := Lib.hid hb1
  clear hb1
  obtain ⟨c0, c1⟩ := new2 w1 (.bool b) (.string x) 28
  go_wp2_with fail
  refine (HR.out _).mono ?_
  rintro e w2 ⟨rfl, hb2⟩
  have hl1 : w1.heap.size < w2.heap.size := by have := hb2.size; rw [World.size_alloc] at this; omega
  have hn1 : w1.heap.size ≠ w2.heap.size := by omega
  have d0 : w2.cell? ⟨w1.heap.size, 0, none⟩ = some (.bool b) := (hb2.cell (p := ⟨w1.heap.size, 0, none⟩) (by rw [World.size_alloc]; exact Nat.lt_succ_self _)).trans c0
  have d1 : w2.cell? ⟨w1.heap.size, 1, none⟩ = some (.string x) := (hb2.cell (p := ⟨w1.heap.size, 1, none⟩) (by rw [World.size_alloc]; exact Nat.lt_succ_self _)).trans c1
  have HB2 : Hid (Below w.heap.size w w2) := (HB1.out.alloc HB1.out.size _).trans (hb2.mono (by rw [World.size_alloc]; have := HB1.out.size; omega))
  clear hb2 c0 c1
  have HB3 : Hid (Below w.heap.size w (w2.alloc (.cells #[.bool b, .string x] 23))) := HB2.out.alloc HB2.out.size _
  go_wp2_with fail
  refine (HP.out _).mono ?_
  rintro e w4 ⟨ao, n, c, rfl, ho4, hb4⟩
  have HO4 := Lib.hid ho4
  have HB4 : Hid (Below w.heap.size w w4) := HB3.out.trans (hb4.mono HB3.out.size)
  clear ho4 hb4 d0 d1 hl1 hn1
  obtain ⟨c0, c1⟩ := new2 w4 (.bool an) (.slice ao n c) 39
  have HB5 : Hid (Below w.heap.size w (w4.alloc (.cells #[.bool an, .slice ao n c] 39))) := HB4.out.alloc HB4.out.size _
  have HO5 : Hid (OwT 28 _ (.slice ao n c) ts (w4.alloc (.cells #[.bool an, .slice ao n c] 39))) := HO4.out.go ((Below.refl _ _).alloc (Nat.le_refl _) _)
  go_wp2_with fail
  refine (HPR.out _).mono ?_
  rintro e w6 ⟨ao2, n2, cp2, rfl, ho6, hb6⟩
  have hl4 : w4.heap.size < w6.heap.size := by have := hb6.size; rw [World.size_alloc] at this; omega
  have d0 : w6.cell? ⟨w4.heap.size, 0, none⟩ = some (.bool an) := (hb6.cell (p := ⟨w4.heap.size, 0, none⟩) (by rw [World.size_alloc]; exact Nat.lt_succ_self _)).trans c0
  have d1 : w6.cell? ⟨w4.heap.size, 1, none⟩ = some (.slice ao n c) := (hb6.cell (p := ⟨w4.heap.size, 1, none⟩) (by rw [World.size_alloc]; exact Nat.lt_succ_self _)).trans c1
  have HB6 : Hid (Below w.heap.size w w6) := HB5.out.trans (hb6.mono HB5.out.size)
  have HO6 := Lib.hid (HO5.out.go hb6)
  have HQ6 := Lib.hid ho6
  have hln := owt_max HO6.out
  obtain rfl := own_n HO6.out
  obtain rfl := own_n HQ6.out
  unfold maxLen at hln
  clear hb6 ho6 c0 c1 HO4 HO5
  go_wp2
  go_loopw [70] (fun v wr => ∃ j : Nat, j ≤ ts.length ∧ v = .int .i64 j ∧ Below w6.heap.size w6 wr) (fun v _ => ts.length - (intOf v).toNat)
  case atStart => exact ⟨0, by omega, rfl, Below.refl _ _⟩
  case round =>
    obtain ⟨j, hj, rfl, hB⟩ := hrel
    have k0 : wr.cell? ⟨w4.heap.size, 0, none⟩ = some (.bool an) := (hB.cell (p := ⟨w4.heap.size, 0, none⟩) hl4).trans d0
    have k1 : wr.cell? ⟨w4.heap.size, 1, none⟩ = some (.slice ao ts.length c) := (hB.cell (p := ⟨w4.heap.size, 1, none⟩) hl4).trans d1
    by_cases hlt : j < ts.length
    · obtain ⟨g1, c1, e1, hg1, _, hc1, hat1⟩ := owt_at HO6.out (by omega)
      obtain ⟨g2, c2, e2, hg2, _, hc2, hat2⟩ := owt_at HQ6.out (by omega)
      injection e1 with e1a e1b e1c
      injection e2 with e2a e2b e2c
      subst e1a e2a e1c e2c
      have p0 : wr.cell? ⟨g1, j * 2, none⟩ = some (.bool ts[j].1) := (hB.cell (p := ⟨g1, j * 2, none⟩) hg1).trans (hat1 j hlt).1
      have p1 : wr.cell? ⟨g1, j * 2 + 1, none⟩ = some (.string (mkS ts[j].2)) := (hB.cell (p := ⟨g1, j * 2 + 1, none⟩) hg1).trans (hat1 j hlt).2
      have r0 : wr.cell? ⟨g2, j * 2, none⟩ = some (.bool ts[j].1) := (hB.cell (p := ⟨g2, j * 2, none⟩) hg2).trans (hat2 j hlt).1
      have r1 : wr.cell? ⟨g2, j * 2 + 1, none⟩ = some (.string (mkS ts[j].2)) := (hB.cell (p := ⟨g2, j * 2 + 1, none⟩) hg2).trans (hat2 j hlt).2
      have HB := Lib.hid hB
      clear hB hat1 hat2 d0 d1
      revert p0 p1 r0 r1
      generalize mkS ts[j].2 = xx
      generalize ts[j].1 = bb
      intro p0 p1 r0 r1
      have hj0 : (0 : Int) ≤ (j : Int) := by omega
      have hjl : (j : Int) < (ts.length : Int) := by omega
      go_wp2
      go_quiet (fail)
      go_wp2
      go_roundw
      case rel => exact ⟨j + 1, by omega, by go_num, bdrw HB.out _⟩
      case measure => simp [intOf]; omega
    · have HB : Hid (Below w.heap.size w wr) := HB6.out.trans (hB.mono HB6.out.size)
      have HTW : Hid (Nu.Tabs wr) := HT.out.below HB.out (Nat.le_refl _)
      clear hB d0 d1
      obtain rfl : ts = [] := HTS.out
      go_wp2_with fail
      refine (awake_c _ HTW.out).mono ?_
      rintro e w9 ⟨rfl, hb9⟩
      have HB9 := Lib.hid hb9
      clear hb9
      go_wp2
      go_ret
      exact ⟨rfl, HB.out.trans (HB9.out.mono HB.out.size)⟩
set_option maxRecDepth 100000 in
set_option maxHeartbeats 8000000 in
theorem walktruetrue (s x : ByteArray) (b an : Bool) (ts : List TagL) (a0 : ByteArray) (w : World) (hs : Tryd.prog.stoodInHeld 28 = false)
    (hsh : Hid (∀ W, Calls Tryd.prog 8 #[.string a0] W fun e w' => e = .returned (.string s) ∧ W = w'))
    (HO : Hid (∀ W, Calls Tryd.prog 12 #[.string s] W fun e w' => e = .returned (.tuple #[.agg #[.bool b, .string x], .int .i64 0]) ∧ Below W.heap.size W w'))
    (HR : Hid (∀ W, Calls Tryd.prog 14 #[.string s] W fun e w' => e = .returned (.tuple #[.agg #[.bool b, .string x], .bool true]) ∧ Below W.heap.size W w'))
    (HP : Hid (∀ W, Calls Tryd.prog 15 #[.string s] W fun e w' => ∃ ao n c, e = .returned (.tuple #[.agg #[.bool an, .slice ao n c], .int .i64 0]) ∧ OwT 28 W.heap.size (.slice ao n c) ts w' ∧ Below W.heap.size W w'))
    (HPR : Hid (∀ W, Calls Tryd.prog 16 #[.string s] W fun e w' => ∃ ao n c, e = .returned (.tuple #[.bool an, .slice ao n c, .bool true]) ∧ OwT 23 W.heap.size (.slice ao n c) ts w' ∧ Below W.heap.size W w'))
    (HT : Hid (Nu.Tabs w)) (hts : True) :
    Calls Tryd.prog 4 #[.string a0] w fun e w' => e = .returned (.bool true) ∧ Below w.heap.size w w' := by
  go_enter Tryd.func4, Tryd.ntmps4
  go_wp2_with fail
  refine (hsh.out _).mono ?_
  rintro e w' ⟨rfl, rfl⟩
  go_wp2_with fail
  refine (HO.out _).mono ?_
  rintro e w1 ⟨rfl, hb1⟩
  have HB1 := Lib.hid hb1
  clear hb1
  obtain ⟨c0, c1⟩ := new2 w1 (.bool b) (.string x) 28
  go_wp2_with fail
  refine (HR.out _).mono ?_
  rintro e w2 ⟨rfl, hb2⟩
  have hl1 : w1.heap.size < w2.heap.size := by have := hb2.size; rw [World.size_alloc] at this; omega
  have hn1 : w1.heap.size ≠ w2.heap.size := by omega
  have d0 : w2.cell? ⟨w1.heap.size, 0, none⟩ = some (.bool b) := (hb2.cell (p := ⟨w1.heap.size, 0, none⟩) (by rw [World.size_alloc]; exact Nat.lt_succ_self _)).trans c0
  have d1 : w2.cell? ⟨w1.heap.size, 1, none⟩ = some (.string x) := (hb2.cell (p := ⟨w1.heap.size, 1, none⟩) (by rw [World.size_alloc]; exact Nat.lt_succ_self _)).trans c1
  have HB2 : Hid (Below w.heap.size w w2) := (HB1.out.alloc HB1.out.size _).trans (hb2.mono (by rw [World.size_alloc]; have := HB1.out.size; omega))
  clear hb2 c0 c1
  have HB3 : Hid (Below w.heap.size w (w2.alloc (.cells #[.bool b, .string x] 23))) := HB2.out.alloc HB2.out.size _
  go_wp2_with fail
  refine (HP.out _).mono ?_
  rintro e w4 ⟨ao, n, c, rfl, ho4, hb4⟩
  have HO4 := Lib.hid ho4
  have HB4 : Hid (Below w.heap.size w w4) := HB3.out.trans (hb4.mono HB3.out.size)
  clear ho4 hb4 d0 d1 hl1 hn1
  obtain ⟨c0, c1⟩ := new2 w4 (.bool an) (.slice ao n c) 39
  have HB5 : Hid (Below w.heap.size w (w4.alloc (.cells #[.bool an, .slice ao n c] 39))) := HB4.out.alloc HB4.out.size _
  have HO5 : Hid (OwT 28 _ (.slice ao n c) ts (w4.alloc (.cells #[.bool an, .slice ao n c] 39))) := HO4.out.go ((Below.refl _ _).alloc (Nat.le_refl _) _)
  go_wp2_with fail
  refine (HPR.out _).mono ?_
  rintro e w6 ⟨ao2, n2, cp2, rfl, ho6, hb6⟩
  have hl4 : w4.heap.size < w6.heap.size := by have := hb6.size; rw [World.size_alloc] at this; omega
  have d0 : w6.cell? ⟨w4.heap.size, 0, none⟩ = some (.bool an) := (hb6.cell (p := ⟨w4.heap.size, 0, none⟩) (by rw [World.size_alloc]; exact Nat.lt_succ_self _)).trans c0
  have d1 : w6.cell? ⟨w4.heap.size, 1, none⟩ = some (.slice ao n c) := (hb6.cell (p := ⟨w4.heap.size, 1, none⟩) (by rw [World.size_alloc]; exact Nat.lt_succ_self _)).trans c1
  have HB6 : Hid (Below w.heap.size w w6) := HB5.out.trans (hb6.mono HB5.out.size)
  have HO6 := Lib.hid (HO5.out.go hb6)
  have HQ6 := Lib.hid ho6
  have hln := owt_max HO6.out
  obtain rfl := own_n HO6.out
  obtain rfl := own_n HQ6.out
  unfold maxLen at hln
  clear hb6 ho6 c0 c1 HO4 HO5
  go_wp2
  go_loopw [70] (fun v wr => ∃ j : Nat, j ≤ ts.length ∧ v = .int .i64 j ∧ Below w6.heap.size w6 wr) (fun v _ => ts.length - (intOf v).toNat)
  case atStart => exact ⟨0, by omega, rfl, Below.refl _ _⟩
  case round =>
    obtain ⟨j, hj, rfl, hB⟩ := hrel
    have k0 : wr.cell? ⟨w4.heap.size, 0, none⟩ = some (.bool an) := (hB.cell (p := ⟨w4.heap.size, 0, none⟩) hl4).trans d0
    have k1 : wr.cell? ⟨w4.heap.size, 1, none⟩ = some (.slice ao ts.length c) := (hB.cell (p := ⟨w4.heap.size, 1, none⟩) hl4).trans d1
    by_cases hlt : j < ts.length
    · obtain ⟨g1, c1, e1, hg1, _, hc1, hat1⟩ := owt_at HO6.out (by omega)
      obtain ⟨g2, c2, e2, hg2, _, hc2, hat2⟩ := owt_at HQ6.out (by omega)
      injection e1 with e1a e1b e1c
      injection e2 with e2a e2b e2c
      subst e1a e2a e1c e2c
      have p0 : wr.cell? ⟨g1, j * 2, none⟩ = some (.bool ts[j].1) := (hB.cell (p := ⟨g1, j * 2, none⟩) hg1).trans (hat1 j hlt).1
      have p1 : wr.cell? ⟨g1, j * 2 + 1, none⟩ = some (.string (mkS ts[j].2)) := (hB.cell (p := ⟨g1, j * 2 + 1, none⟩) hg1).trans (hat1 j hlt).2
      have r0 : wr.cell? ⟨g2, j * 2, none⟩ = some (.bool ts[j].1) := (hB.cell (p := ⟨g2, j * 2, none⟩) hg2).trans (hat2 j hlt).1
      have r1 : wr.cell? ⟨g2, j * 2 + 1, none⟩ = some (.string (mkS ts[j].2)) := (hB.cell (p := ⟨g2, j * 2 + 1, none⟩) hg2).trans (hat2 j hlt).2
      have HB := Lib.hid hB
      clear hB hat1 hat2 d0 d1
      revert p0 p1 r0 r1
      generalize mkS ts[j].2 = xx
      generalize ts[j].1 = bb
      intro p0 p1 r0 r1
      have hj0 : (0 : Int) ≤ (j : Int) := by omega
      have hjl : (j : Int) < (ts.length : Int) := by omega
      go_wp2
      go_quiet (fail)
      go_wp2
      go_roundw
      case rel => exact ⟨j + 1, by omega, by go_num, bdrw HB.out _⟩
      case measure => simp [intOf]; omega
    · have HB : Hid (Below w.heap.size w wr) := HB6.out.trans (hB.mono HB6.out.size)
      have HTW : Hid (Nu.Tabs wr) := HT.out.below HB.out (Nat.le_refl _)
      clear hB d0 d1
      go_wp2_with fail
      refine (awake_c _ HTW.out).mono ?_
      rintro e w9 ⟨rfl, hb9⟩
      have HB9 := Lib.hid hb9
      clear hb9
      go_wp2
      go_ret
      exact ⟨rfl, HB.out.trans (HB9.out.mono HB.out.size)⟩
set_option maxRecDepth 100000 in
theorem walk (a0 : ByteArray) (w0 : a0.size ≤ maxLen) (w : World) (hT : Nu.Tabs w) :
    Calls Tryd.prog 4 #[.string a0] w fun e w' => e = .returned (.bool true) ∧ Below w.heap.size w w' := by
  have hsh := Lib.hid (fun W => short_c a0 W w0)
  have hsz := short_sz a0
  revert hsh hsz
  generalize mkS (Et.shortL a0.data.toList) = s
  intro hsh hsz
  have HO := Lib.hid (fun W => One_c s W (by omega))
  have HR := Lib.hid (fun W => OneR_c s W (by omega))
  have HP := Lib.hid (fun W => Parse_c s W (by omega))
  have HPR := Lib.hid (fun W => ParseR_c s W (by omega))
  revert HO HR HP HPR
  generalize oneL s.data.toList = q
  generalize prsL s.data.toList = r
  intro HO HR HP HPR
  cases q with
  | none =>
    cases r with
    | none => exact walkfalsefalse s _ _ _ [] a0 w stood hsh HO HR HP HPR hT rfl
    | some y => exact walkfalsetrue s _ _ _ y.2 a0 w stood hsh HO HR HP HPR hT trivial
  | some t =>
    cases r with
    | none => exact walktruefalse s _ _ _ [] a0 w stood hsh HO HR HP HPR hT rfl
    | some y => exact walktruetrue s _ _ _ y.2 a0 w stood hsh HO HR HP HPR hT trivial

set_option maxRecDepth 100000 in
theorem lifted (os : Os) (started : os.Started) (H : Type) (enc : TypeId × Value → H) :
    ReturnsInHanded {} Tryd.checked os 4 .any (fun w args => (Rows.etagParseSpec.pre enc Tryd.prog Tryd.f4 [] false w args ∧ laidMetH Tryd.prog [("math/bits.deBruijn32tab", Rows.laid_math_bits_deBruijn32tab), ("math/bits.deBruijn64tab", Rows.laid_math_bits_deBruijn64tab), ("internal/strconv.uint64pow10", Rows.laid_internal_strconv_uint64pow10)] w) ∧ sizedMet enc Tryd.prog Tryd.f4 (OpenSpec.ofChange Rows.etagParseSpec) false w args)
      (Rows.etagParseSpec.post enc Tryd.prog Tryd.f4 false true false false) := by
  refine returnsInHanded_of_change_and (C := Tryd.checked) (X := fun w _ => laidMetH Tryd.prog [("math/bits.deBruijn32tab", Rows.laid_math_bits_deBruijn32tab), ("math/bits.deBruijn64tab", Rows.laid_math_bits_deBruijn64tab), ("internal/strconv.uint64pow10", Rows.laid_internal_strconv_uint64pow10)] w) (fun _ _ _ hh h => h.of_heap hh) own started (by kernel_rfl) Tryd.func4
    (ChangeSpec.witness_shaped (enc := enc) (C := Tryd.checked) (os := os) (X := fun w _ => laidMetH Tryd.prog [("math/bits.deBruijn32tab", Rows.laid_math_bits_deBruijn32tab), ("math/bits.deBruijn64tab", Rows.laid_math_bits_deBruijn64tab), ("internal/strconv.uint64pow10", Rows.laid_internal_strconv_uint64pow10)] w) false (World.doorLaid Tryd.prog 400 os) #[.string ByteArray.empty] 8 rfl (World.shaped_of_RefB (by kernel_rfl) (by kernel_rfl)) (by kernel_rfl) (by kernel_rfl) (by kernel_rfl) (Nu.door_met os _)) ?_
  intro W base args ds gs before hval0 hW _ _ hL _
  have hval : ∀ (j : Nat) t v, Tryd.f4.params[j]? = some t → args[j]? = some v → Value.okWide Tryd.prog W .any base t v := hval0
  have hW' := hW
  obtain ⟨p, q, hA0, hV, rfl, hfz, hnd⟩ := hW
  have hA : DataW.TrodAll enc Tryd.prog W 0 (fun _ => true) true Tryd.f4.params.toList args.toList ds p := hA0
  rw [Tryd.params4] at hA hval
  obtain ⟨v0, vs0, d0, ds0, p0, q0, hargs, rfl, rfl, h0, r0⟩ := trodAll_cons hA
  obtain ⟨rfl, rfl, rfl⟩ := trodAll_nil r0
  obtain rfl : args = #[v0] := by cases args; simp_all
  obtain ⟨rfl, rfl⟩ := trodVars_none hV
  obtain ⟨a0, rfl, rfl, rfl, w0⟩ := open_string Tryd.underlying9 (hval 0 9 v0 rfl rfl) h0
  clear hA0 hval0
  have hT := Nu.of_laid hL
  refine (walk a0 w0 W hT).mono fun e W' ⟨he, bel⟩ => ?_
  subst he
  exact ⟨_, rfl, _, _, _, [], _, [], hW', trodAll_mk1 (shut_bool Tryd.underlying4 _), (trodAll_cons_mk (shut_string Tryd.underlying9 w0) trodAll_mk0), rfl, bel.frame _, fun h => by cases h⟩

theorem over : Rows.EtagParseSaid :=
  OpenClaim.holds_of_wide 4 Tryd.f4 rfl rfl rfl rfl rfl rfl rfl ⟨rfl, rfl, rfl, rfl, rfl⟩ rfl rfl rfl rfl rfl (by kernel_rfl) Tryd.func4 (by kernel_rfl)
    (of_decide_eq_true (by kernel_rfl)) (by unfold Func.isWrapper; first | (rw [if_pos (by decide +kernel)]; kernel_rfl) | (rw [if_neg (by decide +kernel)]; exact ⟨rfl, rfl⟩))
    (fun os started H enc _ => lifted os started H enc)
end Go.Proofs.YtojmjdgapfcjfaaDoor.etagParse
namespace Go.Proofs.YtojmjdgapfcjfaaDoor
theorem etagParse_card : Rows.EtagParseCardSaid :=
  Claim7.holds_tied_plain_at .later [] [.data, .data, .data] true (true, "914a9bb9b9637a45452587cbd278f72a662e2d63687d4ca143f048852a48901a") false
    etagParse.over (fun _ h => by cases h) (by kernel_rfl) (fun _ h => by cases h) etagParse_row_tie rfl ⟨rfl, rfl⟩ (by kernel_rfl) rfl
    (fun f fn hf hfn => by
      obtain rfl : f = 4 := Option.some.inj ((show Tryd.prog.funcNamed Tryd.f4.name = some 4 by kernel_rfl).symm.trans hf) |>.symm
      obtain rfl : fn = Tryd.f4 := (Option.some.inj (Tryd.func4.symm.trans hfn)).symm
      exact ⟨by kernel_rfl, fun j t ht => by
        rw [Tryd.params4] at ht
        have hm : t ∈ [9] := by simpa using Array.mem_of_getElem? ht
        have hall : ([9].all fun u => !Tryd.prog.wantsStandIn u) = true := by kernel_rfl
        exact (show Tryd.prog.wantsStandIn t = false by simpa using List.all_eq_true.1 hall t hm)⟩)
    (by kernel_rfl)
#print axioms etagParse_card
end Go.Proofs.YtojmjdgapfcjfaaDoor
