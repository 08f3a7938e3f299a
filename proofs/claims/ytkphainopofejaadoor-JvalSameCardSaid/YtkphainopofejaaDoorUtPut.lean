/- The contract of Put of package utf: a rune's bytes in a new slice, or nil and ErrArg; where the tables lie as the program's text lays them. -/
import Derived.Test.YtkphainopofejaaDoorUtNextR
namespace Go.Proofs.YtkphainopofejaaDoor.Ut
open Go.RowKit
set_option linter.unusedSimpArgs false
set_option linter.unusedVariables false

theorem isRune_c (v : Int) (w : World) : Calls Tryd.prog 82 #[.int .i32 v] w fun e w' => e = .returned (.bool (isR v)) ∧ w = w' := by
  unfold isR
  rcases (show v < 0 ∨ (0 ≤ v ∧ 1114111 < v) ∨ (0 ≤ v ∧ v ≤ 1114111 ∧ v < 55296) ∨ (0 ≤ v ∧ v ≤ 1114111 ∧ 55296 ≤ v) by omega) with h1 | ⟨h1, h2⟩ | ⟨h1, h2, h3⟩ | ⟨h1, h2, h3⟩
  all_goals
    go_enter Tryd.func82, Tryd.ntmps82
    go_wp2
    go_ret
    exact ⟨ret_bool (by rw [Bool.eq_iff_iff]; simp; omega), rfl⟩
theorem size1 (v : Int) (w : World) (h1 : v ≤ 127) : Calls Tryd.prog 83 #[.int .i32 v] w fun e w' => e = .returned (.int .i64 1) ∧ w = w' := by
  go_enter Tryd.func83, Tryd.ntmps83
  go_wp2
  go_ret
  exact ⟨rfl, rfl⟩
theorem size2 (v : Int) (w : World) (h0 : 127 < v) (h1 : v ≤ 2047) : Calls Tryd.prog 83 #[.int .i32 v] w fun e w' => e = .returned (.int .i64 2) ∧ w = w' := by
  go_enter Tryd.func83, Tryd.ntmps83
  go_wp2
  go_ret
  exact ⟨rfl, rfl⟩
theorem size3 (v : Int) (w : World) (h0 : 2047 < v) (h1 : v ≤ 65535) : Calls Tryd.prog 83 #[.int .i32 v] w fun e w' => e = .returned (.int .i64 3) ∧ w = w' := by
  go_enter Tryd.func83, Tryd.ntmps83
  go_wp2
  go_ret
  exact ⟨rfl, rfl⟩
theorem size4 (v : Int) (w : World) (h0 : 65535 < v) : Calls Tryd.prog 83 #[.int .i32 v] w fun e w' => e = .returned (.int .i64 4) ∧ w = w' := by
  go_enter Tryd.func83, Tryd.ntmps83
  go_wp2
  go_ret
  exact ⟨rfl, rfl⟩
theorem mk1 : ∀ W : World, (Instr.makeSlice 118 (.int .i64 1) (.int .i64 1)).run Tryd.prog W = .ok (.slice (some ⟨W.heap.size, 0, none⟩) 1 1) (W.alloc (.cells #[.int .u8 0] 5)) := fun _ => by kernel_rfl
theorem mk2 : ∀ W : World, (Instr.makeSlice 118 (.int .i64 2) (.int .i64 2)).run Tryd.prog W = .ok (.slice (some ⟨W.heap.size, 0, none⟩) 2 2) (W.alloc (.cells #[.int .u8 0, .int .u8 0] 5)) := fun _ => by kernel_rfl
theorem mk3 : ∀ W : World, (Instr.makeSlice 118 (.int .i64 3) (.int .i64 3)).run Tryd.prog W = .ok (.slice (some ⟨W.heap.size, 0, none⟩) 3 3) (W.alloc (.cells #[.int .u8 0, .int .u8 0, .int .u8 0] 5)) := fun _ => by kernel_rfl
theorem mk4 : ∀ W : World, (Instr.makeSlice 118 (.int .i64 4) (.int .i64 4)).run Tryd.prog W = .ok (.slice (some ⟨W.heap.size, 0, none⟩) 4 4) (W.alloc (.cells #[.int .u8 0, .int .u8 0, .int .u8 0, .int .u8 0] 5)) := fun _ => by kernel_rfl
theorem tailb (x : Int) (h0 : 0 ≤ x) (h1 : x < 2147483648) : bits .or .u8 128 (bits .and .i32 x 63 % 256) = 128 + x % 64 := by
  have h := bits_mask .i32 31 (by decide) wraps_i32 6 (by decide) x h0 (by omega)
  have e : (2 : Int) ^ 6 - 1 = 63 := by decide
  have e2 : (2 : Int) ^ 6 = 64 := by decide
  rw [e, e2] at h
  rw [h, show x % 64 % 256 = x % 64 by omega]
  exact u8_or128 (x % 64) (by omega) (by omega)
/-- a new slice of these bytes, and OK -/
def New2 (zs : List Int) (w : World) (e : Ending) (w' : World) : Prop := ∃ g cap, e = .returned (.tuple #[.slice (some ⟨g, 0, none⟩) zs.length cap, .int .i64 0]) ∧ zs.length ≤ cap ∧ cap ≤ maxLen ∧ g < w'.heap.size ∧ Bts w' g 0 zs ∧ Below w.heap.size w w'
theorem or0_all : ∀ n : Fin 256, bits .or .u8 0 (n.val : Int) = (n.val : Int) := by decide +kernel
theorem or0 (c : Int) (h0 : 0 ≤ c) (h1 : c ≤ 255) : bits .or .u8 0 c = c := by
  have h := or0_all ⟨c.toNat, by omega⟩
  have e : ((c.toNat : Nat) : Int) = c := by omega
  simp only [e] at h
  exact h
theorem some_int {a b : Int} (h : a = b) : some (Value.int .u8 a) = some (Value.int .u8 b) := by rw [h]
theorem put_no (v : Int) (w : World) (hr : isR v = false) : Calls Tryd.prog 76 #[.int .i32 v] w fun e w' => e = .returned (.tuple #[.slice none 0 0, .int .i64 1]) ∧ w = w' := by
  have HI := Lib.hid (isRune_c v w)
  rw [hr] at HI
  clear hr
  go_enter Tryd.func76, Tryd.ntmps76
  go_wp2_with (go_at_call 82; refine HI.out.mono ?_; rintro e w' ⟨rfl, rfl⟩)
  go_ret2
  exact ⟨rfl, rfl⟩

set_option maxRecDepth 100000 in
set_option maxHeartbeats 2000000 in
theorem put1 (v : Int) (w : World) (hT : Tabs w) (hr : isR v = true) (hv0 : 0 ≤ v) (hv1 : v ≤ 1114111) (h1 : v ≤ 127) : Calls Tryd.prog 76 #[.int .i32 v] w (New2 (putI v) w) := by
  have HI := Lib.hid (isRune_c v w)
  rw [hr] at HI
  have HS := Lib.hid (size1 v w h1)
  have hmk := mk1
  have hl : w.cell? ⟨1, 1, none⟩ = some (.int .u8 0) := lead_cell hT 1 (by omega)
  have h2 : 1 + 1 ≤ w.heap.size := by have := hT.two; omega
  have hl2 : ∀ o : Obj, (w.alloc o).cell? ⟨1, 1, none⟩ = some (.int .u8 0) := fun o => (World.cell?_alloc_lt w o _ (by show 1 < w.heap.size; omega)).trans hl
  clear hr
  go_enter Tryd.func76, Tryd.ntmps76
  go_wp2_with (first | (go_at_call 82; refine HI.out.mono ?_; rintro e w' ⟨rfl, rfl⟩) | (go_at_call 83; refine HS.out.mono ?_; rintro e w' ⟨rfl, rfl⟩))
  refine wp_loop_rounds 1 ?_
  rw [rounds_succ]
  go_wp2
  go_ret2
  have HE : putI v = [v] := by unfold putI; rw [if_pos (by omega)]
  rw [HE]
  refine ⟨w.heap.size, 1, rfl, by simp, by unfold maxLen; omega, by simp, bts_new w _ _ (fun j hj => ?_), (Below.refl _ _).alloc (Nat.le_refl _) _⟩
  match j, hj with
  | 0, _ => exact some_int (b := v) (by exact or0 v (by omega) (by omega))

set_option maxRecDepth 100000 in
set_option maxHeartbeats 2000000 in
theorem put2 (v : Int) (w : World) (hT : Tabs w) (hr : isR v = true) (hv0 : 0 ≤ v) (hv1 : v ≤ 1114111) (h0 : 127 < v) (h1 : v ≤ 2047) : Calls Tryd.prog 76 #[.int .i32 v] w (New2 (putI v) w) := by
  have HI := Lib.hid (isRune_c v w)
  rw [hr] at HI
  have HS := Lib.hid (size2 v w h0 h1)
  have hmk := mk2
  have hl : w.cell? ⟨1, 2, none⟩ = some (.int .u8 192) := lead_cell hT 2 (by omega)
  have h2 : 1 + 1 ≤ w.heap.size := by have := hT.two; omega
  have hl2 : ∀ o : Obj, (w.alloc o).cell? ⟨1, 2, none⟩ = some (.int .u8 192) := fun o => (World.cell?_alloc_lt w o _ (by show 1 < w.heap.size; omega)).trans hl
  clear hr
  go_enter Tryd.func76, Tryd.ntmps76
  go_wp2_with (first | (go_at_call 82; refine HI.out.mono ?_; rintro e w' ⟨rfl, rfl⟩) | (go_at_call 83; refine HS.out.mono ?_; rintro e w' ⟨rfl, rfl⟩))
  refine wp_loop_rounds 2 ?_
  rw [rounds_succ]
  go_wp2
  rw [rounds_succ]
  go_wp2
  go_ret2
  have HE : putI v = [192 + v / 64, 128 + v % 64] := by unfold putI; rw [if_neg (by omega), if_pos (by omega)]
  rw [HE]
  refine ⟨w.heap.size, 2, rfl, by simp, by unfold maxLen; omega, by simp, bts_new w _ _ (fun j hj => ?_), (Below.refl _ _).alloc (Nat.le_refl _) _⟩
  match j, hj with
  | 0, _ => exact some_int (b := 192 + v / 64) (by omega)
  | 1, _ => exact some_int (b := 128 + v % 64) (by rw [tailb _ (by omega) (by omega)]; try omega)

set_option maxRecDepth 100000 in
set_option maxHeartbeats 2000000 in
theorem put3 (v : Int) (w : World) (hT : Tabs w) (hr : isR v = true) (hv0 : 0 ≤ v) (hv1 : v ≤ 1114111) (h0 : 2047 < v) (h1 : v ≤ 65535) : Calls Tryd.prog 76 #[.int .i32 v] w (New2 (putI v) w) := by
  have HI := Lib.hid (isRune_c v w)
  rw [hr] at HI
  have HS := Lib.hid (size3 v w h0 h1)
  have hmk := mk3
  have hl : w.cell? ⟨1, 3, none⟩ = some (.int .u8 224) := lead_cell hT 3 (by omega)
  have h2 : 1 + 1 ≤ w.heap.size := by have := hT.two; omega
  have hl2 : ∀ o : Obj, (w.alloc o).cell? ⟨1, 3, none⟩ = some (.int .u8 224) := fun o => (World.cell?_alloc_lt w o _ (by show 1 < w.heap.size; omega)).trans hl
  clear hr
  go_enter Tryd.func76, Tryd.ntmps76
  go_wp2_with (first | (go_at_call 82; refine HI.out.mono ?_; rintro e w' ⟨rfl, rfl⟩) | (go_at_call 83; refine HS.out.mono ?_; rintro e w' ⟨rfl, rfl⟩))
  refine wp_loop_rounds 3 ?_
  rw [rounds_succ]
  go_wp2
  rw [rounds_succ]
  go_wp2
  rw [rounds_succ]
  go_wp2
  go_ret2
  have HE : putI v = [224 + v / 4096, 128 + v / 64 % 64, 128 + v % 64] := by unfold putI; rw [if_neg (by omega), if_neg (by omega), if_pos (by omega)]
  rw [HE]
  refine ⟨w.heap.size, 3, rfl, by simp, by unfold maxLen; omega, by simp, bts_new w _ _ (fun j hj => ?_), (Below.refl _ _).alloc (Nat.le_refl _) _⟩
  match j, hj with
  | 0, _ => exact some_int (b := 224 + v / 4096) (by omega)
  | 1, _ => exact some_int (b := 128 + v / 64 % 64) (by rw [tailb _ (by omega) (by omega)]; try omega)
  | 2, _ => exact some_int (b := 128 + v % 64) (by rw [tailb _ (by omega) (by omega)]; try omega)

set_option maxRecDepth 100000 in
set_option maxHeartbeats 2000000 in
theorem put4 (v : Int) (w : World) (hT : Tabs w) (hr : isR v = true) (hv0 : 0 ≤ v) (hv1 : v ≤ 1114111) (h0 : 65535 < v) : Calls Tryd.prog 76 #[.int .i32 v] w (New2 (putI v) w) := by
  have HI := Lib.hid (isRune_c v w)
  rw [hr] at HI
  have HS := Lib.hid (size4 v w h0)
  have hmk := mk4
  have hl : w.cell? ⟨1, 4, none⟩ = some (.int .u8 240) := lead_cell hT 4 (by omega)
  have h2 : 1 + 1 ≤ w.heap.size := by have := hT.two; omega
  have hl2 : ∀ o : Obj, (w.alloc o).cell? ⟨1, 4, none⟩ = some (.int .u8 240) := fun o => (World.cell?_alloc_lt w o _ (by show 1 < w.heap.size; omega)).trans hl
  clear hr
  go_enter Tryd.func76, Tryd.ntmps76
  go_wp2_with (first | (go_at_call 82; refine HI.out.mono ?_; rintro e w' ⟨rfl, rfl⟩) | (go_at_call 83; refine HS.out.mono ?_; rintro e w' ⟨rfl, rfl⟩))
  refine wp_loop_rounds 4 ?_
  rw [rounds_succ]
  go_wp2
  rw [rounds_succ]
  go_wp2
  rw [rounds_succ]
  go_wp2
  rw [rounds_succ]
  go_wp2
  go_ret2
  have HE : putI v = [240 + v / 262144, 128 + v / 4096 % 64, 128 + v / 64 % 64, 128 + v % 64] := by unfold putI; rw [if_neg (by omega), if_neg (by omega), if_neg (by omega)]
  rw [HE]
  refine ⟨w.heap.size, 4, rfl, by simp, by unfold maxLen; omega, by simp, bts_new w _ _ (fun j hj => ?_), (Below.refl _ _).alloc (Nat.le_refl _) _⟩
  match j, hj with
  | 0, _ => exact some_int (b := 240 + v / 262144) (by omega)
  | 1, _ => exact some_int (b := 128 + v / 4096 % 64) (by rw [tailb _ (by omega) (by omega)]; try omega)
  | 2, _ => exact some_int (b := 128 + v / 64 % 64) (by rw [tailb _ (by omega) (by omega)]; try omega)
  | 3, _ => exact some_int (b := 128 + v % 64) (by rw [tailb _ (by omega) (by omega)]; try omega)

theorem put_c (v : Int) (w : World) (hT : Tabs w) (hr : isR v = true) : Calls Tryd.prog 76 #[.int .i32 v] w (New2 (putI v) w) := by
  obtain ⟨h0, h1, _⟩ := (isR_iff v).1 hr
  rcases (show v ≤ 127 ∨ (127 < v ∧ v ≤ 2047) ∨ (2047 < v ∧ v ≤ 65535) ∨ 65535 < v by omega) with h | ⟨h, h'⟩ | ⟨h, h'⟩ | h
  · exact put1 v w hT hr h0 h1 h
  · exact put2 v w hT hr h0 h1 h h'
  · exact put3 v w hT hr h0 h1 h h'
  · exact put4 v w hT hr h0 h1 h
end Go.Proofs.YtkphainopofejaaDoor.Ut
