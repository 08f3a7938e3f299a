/- Contracts of the law's fits and its closure, of the closure that takes all, of Next that is refused; no other condition. -/
import Derived.Test.YtcmcbocegdejjaaClH
namespace Go.Proofs.Ytcmcbocegdejjaa.Cl
open Go.RowKit Go.Lib Go.Shelf Go.Sort
set_option linter.unusedSimpArgs false
set_option linter.unusedVariables false

/-- the function that fits makes -/
abbrev fV (kb : Nat) : Value := .func (.func 25) #[] #[.pointer (some ⟨kb, 0, none⟩)]
def fit (k : ByteArray) (x : Chg) : Bool := x.1.toList == k.toList
set_option maxRecDepth 100000 in
set_option maxHeartbeats 1000000 in
theorem fits_c (k : ByteArray) (w : World) : Calls Try.prog 19 #[.string k] w fun e w' => e = .returned (fV w.heap.size) ∧ w'.cell? ⟨w.heap.size, 0, none⟩ = some (.string k) ∧ Below w.heap.size w w' := by
  go_enter Try.func19, Try.ntmps19
  go_wp2
  go_ret
  exact ⟨rfl, cell_new_sl w _ _, (Below.refl _ _).alloc (Nat.le_refl _) _⟩
set_option maxRecDepth 100000 in
set_option maxHeartbeats 1000000 in
theorem fit1_c (kb : Nat) (k : ByteArray) (x : Chg) (w : World) (hk : w.cell? ⟨kb, 0, none⟩ = some (.string k)) : Calls Try.prog 25 #[aggC x, .pointer (some ⟨kb, 0, none⟩)] w fun e w' => e = .returned (.bool (fit k x)) ∧ Below w.heap.size w w' := by
  obtain ⟨x1, x2, x3⟩ := x
  have hne := World.block_lt_of_cell? _ _ hk
  simp only at hne
  have hne2 : kb ≠ w.heap.size := by omega
  unfold aggC
  go_enter Try.func25, Try.ntmps25
  go_wp2
  go_ret
  exact ⟨rfl, (Below.refl _ _).alloc (Nat.le_refl _) _⟩
theorem eqf (kb : Nat) (W : World) : (binOp .eql 48 (fV kb) .nilFunc).run Try.prog W = .ok (.bool false) W := by
  have u := Try.underlying48
  first | rfl | (go_simp)
theorem eqn (W : World) : (binOp .eql 48 .nilFunc .nilFunc).run Try.prog W = .ok (.bool true) W := by
  have u := Try.underlying48
  first | rfl | (go_simp)
/-- all fit -/
def tru (x : Chg) : Bool := true
set_option maxRecDepth 100000 in
theorem all1_c (x : Chg) (w : World) : Calls Try.prog 24 #[aggC x] w fun e w' => e = .returned (.bool (tru x)) ∧ Below w.heap.size w w' := by
  obtain ⟨x1, x2, x3⟩ := x
  unfold aggC
  go_enter Try.func24, Try.ntmps24
  go_wp2
  go_ret
  exact ⟨rfl, (Below.refl _ _).alloc (Nat.le_refl _) _⟩
set_option maxRecDepth 100000 in
set_option maxHeartbeats 1000000 in
theorem Next_nil (rev : Int) (v : Value) (w : World) : Calls Try.prog 18 #[.pointer none, .int .i64 rev, v] w fun e w' => e = .returned (.tuple #[.slice none 0 0, .int .i64 0, .int .i64 2]) ∧ w' = w := by
  have HS := Lib.hid (Since_nil rev w)
  go_enter Try.func18, Try.ntmps18
  go_wp2_with fail
  refine HS.out.mono ?_
  rintro e w1 ⟨rfl, rfl⟩
  go_wp2_with fail
  exact bodyPost_ret (v := .tuple #[.slice none 0 0, .int .i64 0, .int .i64 2]) (by simp [results, Try.results18, go_sem]) rfl ⟨rfl, rfl⟩
set_option maxRecDepth 100000 in
set_option maxHeartbeats 1000000 in
theorem Next_gone {B c : Nat} {gb : Option Nat} {m : Int} {l : List Ent} {fl la : Int} {w : World} (h : IsLg B c gb m l fl la w) (rev : Int) (v : Value) (hr : rev < fl) : Calls Try.prog 18 #[.pointer (some ⟨c, 0, none⟩), .int .i64 rev, v] w fun e w' => e = .returned (.tuple #[.slice none 0 0, .int .i64 0, .int .i64 9]) ∧ w' = w := by
  have HS := Lib.hid (Since_gone h rev hr)
  clear h
  go_enter Try.func18, Try.ntmps18
  go_wp2_with fail
  refine HS.out.mono ?_
  rintro e w1 ⟨rfl, rfl⟩
  go_wp2_with fail
  exact bodyPost_ret (v := .tuple #[.slice none 0 0, .int .i64 0, .int .i64 9]) (by simp [results, Try.results18, go_sem]) rfl ⟨rfl, rfl⟩
set_option maxRecDepth 100000 in
set_option maxHeartbeats 1000000 in
theorem Next_arg {B c : Nat} {gb : Option Nat} {m : Int} {l : List Ent} {fl la : Int} {w : World} (h : IsLg B c gb m l fl la w) (rev : Int) (v : Value) (hr : ¬ rev < fl) (hr2 : la < rev) : Calls Try.prog 18 #[.pointer (some ⟨c, 0, none⟩), .int .i64 rev, v] w fun e w' => e = .returned (.tuple #[.slice none 0 0, .int .i64 0, .int .i64 1]) ∧ w' = w := by
  have HS := Lib.hid (Since_arg h rev hr hr2)
  clear h
  go_enter Try.func18, Try.ntmps18
  go_wp2_with fail
  refine HS.out.mono ?_
  rintro e w1 ⟨rfl, rfl⟩
  go_wp2_with fail
  exact bodyPost_ret (v := .tuple #[.slice none 0 0, .int .i64 0, .int .i64 1]) (by simp [results, Try.results18, go_sem]) rfl ⟨rfl, rfl⟩
end Go.Proofs.Ytcmcbocegdejjaa.Cl
