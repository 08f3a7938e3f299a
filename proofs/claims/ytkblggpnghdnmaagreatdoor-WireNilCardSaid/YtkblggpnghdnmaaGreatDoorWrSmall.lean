/- Contracts of package wire's small calls: a parser that is not there; New, Status, Held, Room. -/
import Derived.Test.YtkblggpnghdnmaaGreatDoorHdNext
namespace Go.Proofs.YtkblggpnghdnmaaGreatDoor.Hd
open Go.RowKit Ch
set_option linter.unusedSimpArgs false
set_option linter.unusedVariables false

/-- the parser's block -/
def PB (g : Nat) (a b c : Int) (h : ByteArray) (st : Int) (w : World) : Prop := w.heap[g]? = some (.cells #[.int .i64 a, .int .i64 b, .int .i64 c, .string h, .int .i64 st] 44 (0, 0))
theorem PB.lt {g : Nat} {a b c : Int} {h : ByteArray} {st : Int} {w : World} (hp : PB g a b c h st w) : g < w.heap.size := (Array.getElem?_eq_some_iff.1 hp).1
theorem PB.go {g : Nat} {a b c : Int} {h : ByteArray} {st : Int} {w w' : World} (hp : PB g a b c h st w) (hb : Below w.heap.size w w') : PB g a b c h st w' := (hb.block _ hp.lt).trans hp
set_option maxRecDepth 100000 in
set_option maxHeartbeats 1000000 in
theorem feed_nil (s : ByteArray) (w : World) : Calls Tryz.prog 10 #[.pointer none, .string s] w fun e w' => e = .returned (.int .i64 0) ∧ Below w.heap.size w w' := by
  go_enter Tryz.func10, Tryz.ntmps10
  go_wp2
  go_ret
  exact ⟨rfl, Below.refl _ _⟩
set_option maxRecDepth 100000 in
set_option maxHeartbeats 1000000 in
theorem status_nil (w : World) : Calls Tryz.prog 11 #[.pointer none] w fun e w' => e = .returned (.int .i64 0) ∧ Below w.heap.size w w' := by
  go_enter Tryz.func11, Tryz.ntmps11
  go_wp2
  go_ret
  exact ⟨rfl, Below.refl _ _⟩
set_option maxRecDepth 100000 in
set_option maxHeartbeats 1000000 in
theorem held_nil (w : World) : Calls Tryz.prog 12 #[.pointer none] w fun e w' => e = .returned (.int .i64 0) ∧ Below w.heap.size w w' := by
  go_enter Tryz.func12, Tryz.ntmps12
  go_wp2
  go_ret
  exact ⟨rfl, Below.refl _ _⟩
set_option maxRecDepth 100000 in
set_option maxHeartbeats 1000000 in
theorem room_nil (w : World) : Calls Tryz.prog 7 #[.pointer none] w fun e w' => e = .returned (.int .i64 0) ∧ Below w.heap.size w w' := by
  go_enter Tryz.func7, Tryz.ntmps7
  go_wp2
  go_ret
  exact ⟨rfl, Below.refl _ _⟩
abbrev RQ0 : Value := .agg #[.string ⟨#[]⟩, .string ⟨#[]⟩, .int .i64 0, .slice none 0 0, .string ⟨#[]⟩]
set_option maxRecDepth 100000 in
set_option maxHeartbeats 1000000 in
theorem next_nil (w : World) : Calls Tryz.prog 13 #[.pointer none] w fun e w' => e = .returned (.tuple #[RQ0, .bool false]) ∧ Below w.heap.size w w' := by
  have HB : Hid (Below w.heap.size w (w.alloc (.cells #[.string ⟨#[]⟩, .string ⟨#[]⟩, .int .i64 0, .slice none 0 0, .string ⟨#[]⟩] 37))) := (Below.refl _ _).alloc (Nat.le_refl _) _
  have HK := Lib.hid (heap_alloc_new w (.cells #[.string ⟨#[]⟩, .string ⟨#[]⟩, .int .i64 0, .slice none 0 0, .string ⟨#[]⟩] 37))
  go_enter Tryz.func13, Tryz.ntmps13
  go_wp2
  have d0 := cell_of_row _ _ 0 _ _ _ HK.out
  have d1 := cell_of_row _ _ 1 _ _ _ HK.out
  have d2 := cell_of_row _ _ 2 _ _ _ HK.out
  have d3 := cell_of_row _ _ 3 _ _ _ HK.out
  have d4 := cell_of_row _ _ 4 _ _ _ HK.out
  (with_reducible refine bodyPost_ret (v := .tuple #[RQ0, .bool false]) (by simp [results, Tryz.results13, go_sem, d0, d1, d2, d3, d4]) rfl ⟨rfl, HB.out⟩)
set_option maxRecDepth 100000 in
set_option maxHeartbeats 1000000 in
theorem status_c (g : Nat) (a b c : Int) (h : ByteArray) (st : Int) (w : World) (hp : PB g a b c h st w) : Calls Tryz.prog 11 #[.pointer (some ⟨g, 0, none⟩)] w fun e w' => e = .returned (.int .i64 st) ∧ w = w' := by
  have c4 := cell_of_row _ _ 4 _ _ _ hp
  clear hp
  go_enter Tryz.func11, Tryz.ntmps11
  go_wp2
  go_ret
  exact ⟨rfl, rfl⟩
set_option maxRecDepth 100000 in
set_option maxHeartbeats 1000000 in
theorem held_c (g : Nat) (a b c : Int) (h : ByteArray) (st : Int) (w : World) (hp : PB g a b c h st w) : Calls Tryz.prog 12 #[.pointer (some ⟨g, 0, none⟩)] w fun e w' => e = .returned (.int .i64 (h.size : Int)) ∧ w = w' := by
  have c3 := cell_of_row _ _ 3 _ _ _ hp
  clear hp
  go_enter Tryz.func12, Tryz.ntmps12
  go_wp2
  go_ret
  exact ⟨rfl, rfl⟩
set_option maxRecDepth 100000 in
set_option maxHeartbeats 1000000 in
theorem new_c (a b c : Int) (w : World) : Calls Tryz.prog 5 #[.agg #[.int .i64 a, .int .i64 b, .int .i64 c]] w fun e w' => e = .returned (.pointer (some ⟨w.heap.size + 1, 0, none⟩)) ∧ PB (w.heap.size + 1) a b c ⟨#[]⟩ 0 w' ∧ Below w.heap.size w w' := by
  have hz : ∀ o, (w.alloc o).heap.size = w.heap.size + 1 := fun o => by simp
  have hb := (Below.refl w.heap.size w).alloc (Nat.le_refl _) (.cells #[.int .i64 a, .int .i64 b, .int .i64 c] 27)
  have HB : Hid (Below w.heap.size w ((w.alloc (.cells #[.int .i64 a, .int .i64 b, .int .i64 c] 27)).alloc (.cells #[.int .i64 a, .int .i64 b, .int .i64 c, .string ⟨#[]⟩, .int .i64 0] 44))) := hb.alloc hb.size _
  have hk := heap_alloc_new (w.alloc (.cells #[.int .i64 a, .int .i64 b, .int .i64 c] 27)) (.cells #[.int .i64 a, .int .i64 b, .int .i64 c, .string ⟨#[]⟩, .int .i64 0] 44)
  rw [hz] at hk
  have HK : Hid (PB (w.heap.size + 1) a b c ⟨#[]⟩ 0 _) := hk
  clear hk hb
  go_enter Tryz.func5, Tryz.ntmps5
  go_wp2
  go_ret
  exact ⟨rfl, HK.out, HB.out⟩
set_option maxRecDepth 100000 in
set_option maxHeartbeats 1000000 in
theorem room_c (g : Nat) (a b c c' : Int) (h : ByteArray) (st : Int) (w : World) (hp : PB g a b c h st w) (hc0 : 0 ≤ c') (hc1 : c' ≤ 1000) (HR : Hid (∀ W : World, Calls Tryz.prog 15 #[.agg #[.int .i64 a, .int .i64 b, .int .i64 c]] W fun e w' => e = .returned (.agg #[.int .i64 16, .int .i64 1, .int .i64 c']) ∧ Below W.heap.size W w')) :
    Calls Tryz.prog 7 #[.pointer (some ⟨g, 0, none⟩)] w fun e w' => e = .returned (.int .i64 (48 + c' + 1024)) ∧ Below w.heap.size w w' := by
  have c0 := cell_of_row _ _ 0 _ _ _ hp
  have c1 := cell_of_row _ _ 1 _ _ _ hp
  have c2 := cell_of_row _ _ 2 _ _ _ hp
  clear hp
  have h1 : IntKind.i64.wrap (48 + c') = 48 + c' := IntWalk.i64_in _ (by omega)
  have h2 : IntKind.i64.wrap (48 + c' + 1024) = 48 + c' + 1024 := IntWalk.i64_in _ (by omega)
  go_enter Tryz.func7, Tryz.ntmps7
  go_wp2_with fail
  refine (HR.out _).mono ?_
  rintro e w1 ⟨rfl, hb⟩
  have HB := Lib.hid hb
  clear hb
  go_wp2
  go_ret
  exact ⟨rfl, HB.out.alloc HB.out.size _⟩
set_option maxRecDepth 100000 in
set_option maxHeartbeats 1000000 in
theorem feed_c (g : Nat) (a b c c' : Int) (h s : ByteArray) (m : Nat) (w : World) (hp : PB g a b c h 0 w) (hc0 : 0 ≤ c') (hc1 : c' ≤ 1000) (hs : s.size ≤ 500) (hh : (h.size : Int) ≤ 48 + c' + 1024) (hm : min (s.size : Int) (48 + c' + 1024 - (h.size : Int)) = (m : Int)) (HR : Hid (∀ W : World, Calls Tryz.prog 15 #[.agg #[.int .i64 a, .int .i64 b, .int .i64 c]] W fun e w' => e = .returned (.agg #[.int .i64 16, .int .i64 1, .int .i64 c']) ∧ Below W.heap.size W w')) :
    Calls Tryz.prog 10 #[.pointer (some ⟨g, 0, none⟩), .string s] w fun e w' => e = .returned (.int .i64 (m : Int)) ∧ PB g a b c (h ++ s.extract 0 m) 0 w' ∧ w.grownBy w' (some g) := by
  have HRM := Lib.hid (fun W hp => room_c g a b c c' h 0 W hp hc0 hc1 HR)
  have HP := Lib.hid hp
  have c3 := cell_of_row _ _ 3 _ _ _ hp
  have c4 := cell_of_row _ _ 4 _ _ _ hp
  have hsub : IntKind.i64.wrap (48 + c' + 1024 - (h.size : Int)) = 48 + c' + 1024 - (h.size : Int) := IntWalk.i64_in _ (by omega)
  have hm0 : (0 : Int) ≤ (m : Int) := by omega
  have hm1 : (m : Int) ≤ (s.size : Int) := by omega
  have hms : (s.extract 0 m).size ≤ 500 := by rw [ByteArray.size_extract]; omega
  have hsum : ∀ W, (Op.stringOp .add h (s.extract 0 m)).run Tryz.prog W = .ok (.string (h ++ s.extract 0 m)) W := fun W => run_string_add_sum W _ _ (by omega)
  clear hp HR
  go_enter Tryz.func10, Tryz.ntmps10
  go_wp2_with fail
  go_region_held3 (fun V => V.cell? ⟨g, 3, none⟩ = some (.string h))
    (first | exact e3 | exact c3)
    (first | (go_at_call 7; refine (HRM.out w.drew HP.out).mono ?_; rintro e w3 ⟨rfl, hb3⟩; have HP3 : Hid (PB g a b c h 0 w3) := HP.out.go ⟨hb3.os, hb3.tape, hb3.output, hb3.size, hb3.block⟩; have HG3 : Hid (w.grownBy w3 (some g)) := gb_trans (gb_drew _ _) (gb_below hb3); have e3 : w3.cell? ⟨g, 3, none⟩ = some (.string h) := cell_of_row _ _ 3 _ _ _ HP3.out; clear hb3))
  clear c3 c4
  have f3 := frz2 HP3.out 3
  have HS : Hid (PB g a b c (h ++ s.extract 0 m) 0 (w3.setCell ⟨g, 3, none⟩ (.string (h ++ s.extract 0 m)))) := by
    have := blk_set HP3.out 3 (.string (h ++ s.extract 0 m))
    show PB _ _ _ _ _ _ _
    unfold PB
    simpa using this
  have g3 : w3.drew.cell? ⟨g, 3, none⟩ = some (.string h) := e3
  have g4 : w3.drew.frozen? ⟨g, 3, none⟩ = false := f3
  have mixed := Tryz.lays145.mixed
  go_wp2_with fail
  go_region_o
  all_goals (go_wp2; go_ret; exact ⟨rfl, HS.out, gb_trans HG3.out (gb_trans (gb_drew _ _) (gb_set _ _ _ _))⟩)
end Go.Proofs.YtkblggpnghdnmaaGreatDoor.Hd
