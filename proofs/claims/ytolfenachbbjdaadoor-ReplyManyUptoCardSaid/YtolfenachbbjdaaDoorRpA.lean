/- Contracts of package reply's Reason, Bare and Of, and of the document's Reason and Bare; no condition. -/
import Derived.Test.YtolfenachbbjdaaDoorJtBld
import Derived.Test.YtolfenachbbjdaaDoorNuPrintN
import Derived.Test.YtolfenachbbjdaaDoorHdFieldR
import Derived.Test.YtolfenachbbjdaaDoorChLowers
namespace Go.Proofs.YtolfenachbbjdaaDoor.Rp
open Go.RowKit Ch Hd
set_option linter.unusedSimpArgs false
set_option linter.unusedVariables false

def codesL : List Int := [200, 201, 204, 304, 400, 404, 405, 408, 410, 412, 413, 414, 428, 431, 501, 503, 505, 507]
def wordsL : List (List UInt8) := [[79, 75], [67, 114, 101, 97, 116, 101, 100], [78, 111, 32, 67, 111, 110, 116, 101, 110, 116], [78, 111, 116, 32, 77, 111, 100, 105, 102, 105, 101, 100], [66, 97, 100, 32, 82, 101, 113, 117, 101, 115, 116], [78, 111, 116, 32, 70, 111, 117, 110, 100], [77, 101, 116, 104, 111, 100, 32, 78, 111, 116, 32, 65, 108, 108, 111, 119, 101, 100], [82, 101, 113, 117, 101, 115, 116, 32, 84, 105, 109, 101, 111, 117, 116], [71, 111, 110, 101], [80, 114, 101, 99, 111, 110, 100, 105, 116, 105, 111, 110, 32, 70, 97, 105, 108, 101, 100], [67, 111, 110, 116, 101, 110, 116, 32, 84, 111, 111, 32, 76, 97, 114, 103, 101], [85, 82, 73, 32, 84, 111, 111, 32, 76, 111, 110, 103], [80, 114, 101, 99, 111, 110, 100, 105, 116, 105, 111, 110, 32, 82, 101, 113, 117, 105, 114, 101, 100], [82, 101, 113, 117, 101, 115, 116, 32, 72, 101, 97, 100, 101, 114, 32, 70, 105, 101, 108, 100, 115, 32, 84, 111, 111, 32, 76, 97, 114, 103, 101], [78, 111, 116, 32, 73, 109, 112, 108, 101, 109, 101, 110, 116, 101, 100], [83, 101, 114, 118, 105, 99, 101, 32, 85, 110, 97, 118, 97, 105, 108, 97, 98, 108, 101], [72, 84, 84, 80, 32, 86, 101, 114, 115, 105, 111, 110, 32, 78, 111, 116, 32, 83, 117, 112, 112, 111, 114, 116, 101, 100], [73, 110, 115, 117, 102, 102, 105, 99, 105, 101, 110, 116, 32, 83, 116, 111, 114, 97, 103, 101]]
def codeAt (j : Nat) : Int := codesL.getD j 0
def wordAt (j : Nat) : List UInt8 := wordsL.getD j []
def rsnL (n : Int) : List UInt8 := if n = 200 then [79, 75] else if n = 201 then [67, 114, 101, 97, 116, 101, 100] else if n = 204 then [78, 111, 32, 67, 111, 110, 116, 101, 110, 116] else if n = 304 then [78, 111, 116, 32, 77, 111, 100, 105, 102, 105, 101, 100] else if n = 400 then [66, 97, 100, 32, 82, 101, 113, 117, 101, 115, 116] else if n = 404 then [78, 111, 116, 32, 70, 111, 117, 110, 100] else if n = 405 then [77, 101, 116, 104, 111, 100, 32, 78, 111, 116, 32, 65, 108, 108, 111, 119, 101, 100] else if n = 408 then [82, 101, 113, 117, 101, 115, 116, 32, 84, 105, 109, 101, 111, 117, 116] else if n = 410 then [71, 111, 110, 101] else if n = 412 then [80, 114, 101, 99, 111, 110, 100, 105, 116, 105, 111, 110, 32, 70, 97, 105, 108, 101, 100] else if n = 413 then [67, 111, 110, 116, 101, 110, 116, 32, 84, 111, 111, 32, 76, 97, 114, 103, 101] else if n = 414 then [85, 82, 73, 32, 84, 111, 111, 32, 76, 111, 110, 103] else if n = 428 then [80, 114, 101, 99, 111, 110, 100, 105, 116, 105, 111, 110, 32, 82, 101, 113, 117, 105, 114, 101, 100] else if n = 431 then [82, 101, 113, 117, 101, 115, 116, 32, 72, 101, 97, 100, 101, 114, 32, 70, 105, 101, 108, 100, 115, 32, 84, 111, 111, 32, 76, 97, 114, 103, 101] else if n = 501 then [78, 111, 116, 32, 73, 109, 112, 108, 101, 109, 101, 110, 116, 101, 100] else if n = 503 then [83, 101, 114, 118, 105, 99, 101, 32, 85, 110, 97, 118, 97, 105, 108, 97, 98, 108, 101] else if n = 505 then [72, 84, 84, 80, 32, 86, 101, 114, 115, 105, 111, 110, 32, 78, 111, 116, 32, 83, 117, 112, 112, 111, 114, 116, 101, 100] else if n = 507 then [73, 110, 115, 117, 102, 102, 105, 99, 105, 101, 110, 116, 32, 83, 116, 111, 114, 97, 103, 101] else [85, 110, 107, 110, 111, 119, 110]
theorem rsn_at : ∀ j, j < 18 → rsnL (codeAt j) = wordAt j := by
  have h : (List.range 18).all (fun j => rsnL (codeAt j) == wordAt j) = true := by decide +kernel
  intro j hj
  have := List.all_eq_true.1 h j (List.mem_range.2 hj)
  exact eq_of_beq this
theorem rsn_no {n : Int} (h : ∀ j, j < 18 → codeAt j ≠ n) : rsnL n = [85, 110, 107, 110, 111, 119, 110] := by
  have h0 : ¬ n = 200 := fun e => h 0 (by decide) e.symm
  have h1 : ¬ n = 201 := fun e => h 1 (by decide) e.symm
  have h2 : ¬ n = 204 := fun e => h 2 (by decide) e.symm
  have h3 : ¬ n = 304 := fun e => h 3 (by decide) e.symm
  have h4 : ¬ n = 400 := fun e => h 4 (by decide) e.symm
  have h5 : ¬ n = 404 := fun e => h 5 (by decide) e.symm
  have h6 : ¬ n = 405 := fun e => h 6 (by decide) e.symm
  have h7 : ¬ n = 408 := fun e => h 7 (by decide) e.symm
  have h8 : ¬ n = 410 := fun e => h 8 (by decide) e.symm
  have h9 : ¬ n = 412 := fun e => h 9 (by decide) e.symm
  have h10 : ¬ n = 413 := fun e => h 10 (by decide) e.symm
  have h11 : ¬ n = 414 := fun e => h 11 (by decide) e.symm
  have h12 : ¬ n = 428 := fun e => h 12 (by decide) e.symm
  have h13 : ¬ n = 431 := fun e => h 13 (by decide) e.symm
  have h14 : ¬ n = 501 := fun e => h 14 (by decide) e.symm
  have h15 : ¬ n = 503 := fun e => h 15 (by decide) e.symm
  have h16 : ¬ n = 505 := fun e => h 16 (by decide) e.symm
  have h17 : ¬ n = 507 := fun e => h 17 (by decide) e.symm
  unfold rsnL
  rw [if_neg h0, if_neg h1, if_neg h2, if_neg h3, if_neg h4, if_neg h5, if_neg h6, if_neg h7, if_neg h8, if_neg h9, if_neg h10, if_neg h11, if_neg h12, if_neg h13, if_neg h14, if_neg h15, if_neg h16, if_neg h17]
theorem rs_cases (n : Int) : n = 200 ∨ n = 201 ∨ n = 204 ∨ n = 304 ∨ n = 400 ∨ n = 404 ∨ n = 405 ∨ n = 408 ∨ n = 410 ∨ n = 412 ∨ n = 413 ∨ n = 414 ∨ n = 428 ∨ n = 431 ∨ n = 501 ∨ n = 503 ∨ n = 505 ∨ n = 507 ∨ (n ≠ 200 ∧ n ≠ 201 ∧ n ≠ 204 ∧ n ≠ 304 ∧ n ≠ 400 ∧ n ≠ 404 ∧ n ≠ 405 ∧ n ≠ 408 ∧ n ≠ 410 ∧ n ≠ 412 ∧ n ≠ 413 ∧ n ≠ 414 ∧ n ≠ 428 ∧ n ≠ 431 ∧ n ≠ 501 ∧ n ≠ 503 ∧ n ≠ 505 ∧ n ≠ 507) := by omega
set_option maxRecDepth 100000 in
set_option maxHeartbeats 4000000 in
theorem Reason_c (n : Int) (w : World) : Calls Tryd.prog 20 #[.int .i64 n] w fun e w' => e = .returned (.string (mkS (rsnL n))) ∧ w = w' := by
  rcases rs_cases n with rfl | rfl | rfl | rfl | rfl | rfl | rfl | rfl | rfl | rfl | rfl | rfl | rfl | rfl | rfl | rfl | rfl | rfl | ⟨h0, h1, h2, h3, h4, h5, h6, h7, h8, h9, h10, h11, h12, h13, h14, h15, h16, h17⟩
  case inr.inr.inr.inr.inr.inr.inr.inr.inr.inr.inr.inr.inr.inr.inr.inr.inr.inr =>
    have hr : rsnL n = [85, 110, 107, 110, 111, 119, 110] := by unfold rsnL; rw [if_neg h0, if_neg h1, if_neg h2, if_neg h3, if_neg h4, if_neg h5, if_neg h6, if_neg h7, if_neg h8, if_neg h9, if_neg h10, if_neg h11, if_neg h12, if_neg h13, if_neg h14, if_neg h15, if_neg h16, if_neg h17]
    have e0 : (n == 200) = false := beq_eq_false_iff_ne.2 h0
    have e1 : (n == 201) = false := beq_eq_false_iff_ne.2 h1
    have e2 : (n == 204) = false := beq_eq_false_iff_ne.2 h2
    have e3 : (n == 304) = false := beq_eq_false_iff_ne.2 h3
    have e4 : (n == 400) = false := beq_eq_false_iff_ne.2 h4
    have e5 : (n == 404) = false := beq_eq_false_iff_ne.2 h5
    have e6 : (n == 405) = false := beq_eq_false_iff_ne.2 h6
    have e7 : (n == 408) = false := beq_eq_false_iff_ne.2 h7
    have e8 : (n == 410) = false := beq_eq_false_iff_ne.2 h8
    have e9 : (n == 412) = false := beq_eq_false_iff_ne.2 h9
    have e10 : (n == 413) = false := beq_eq_false_iff_ne.2 h10
    have e11 : (n == 414) = false := beq_eq_false_iff_ne.2 h11
    have e12 : (n == 428) = false := beq_eq_false_iff_ne.2 h12
    have e13 : (n == 431) = false := beq_eq_false_iff_ne.2 h13
    have e14 : (n == 501) = false := beq_eq_false_iff_ne.2 h14
    have e15 : (n == 503) = false := beq_eq_false_iff_ne.2 h15
    have e16 : (n == 505) = false := beq_eq_false_iff_ne.2 h16
    have e17 : (n == 507) = false := beq_eq_false_iff_ne.2 h17
    rw [hr]
    clear hr h0 h1 h2 h3 h4 h5 h6 h7 h8 h9 h10 h11 h12 h13 h14 h15 h16 h17
    go_enter Tryd.func20, Tryd.ntmps20
    go_wp2
    go_ret
    exact ⟨rfl, rfl⟩
  all_goals
    go_enter Tryd.func20, Tryd.ntmps20
    go_wp2
    go_ret
    exact ⟨rfl, rfl⟩
def barB (n : Int) : Bool := decide (n = 204 ∨ n = 304)
set_option maxRecDepth 100000 in
theorem Bare_c (n : Int) (w : World) : Calls Tryd.prog 22 #[.int .i64 n] w fun e w' => e = .returned (.bool (barB n)) ∧ w = w' := by
  rcases (by omega : n = 204 ∨ n = 304 ∨ (n ≠ 204 ∧ n ≠ 304)) with rfl | rfl | ⟨h1, h2⟩
  · go_enter Tryd.func22, Tryd.ntmps22
    go_wp2
    go_ret
    exact ⟨rfl, rfl⟩
  · go_enter Tryd.func22, Tryd.ntmps22
    go_wp2
    go_ret
    exact ⟨rfl, rfl⟩
  · have hb : barB n = false := decide_eq_false (by omega)
    have e1 : (n == 204) = false := beq_eq_false_iff_ne.2 h1
    have e2 : (n == 304) = false := beq_eq_false_iff_ne.2 h2
    rw [hb]
    clear hb h1 h2
    go_enter Tryd.func22, Tryd.ntmps22
    go_wp2
    go_ret
    exact ⟨rfl, rfl⟩
set_option maxRecDepth 100000 in
theorem BareR_c (n : Int) (w : World) : Calls Tryd.prog 19 #[.int .i64 n] w fun e w' => e = .returned (.bool (barB n)) ∧ w = w' := by
  rcases (by omega : n = 204 ∨ n = 304 ∨ (n ≠ 204 ∧ n ≠ 304)) with rfl | rfl | ⟨h1, h2⟩
  · go_enter Tryd.func19, Tryd.ntmps19
    go_wp2
    go_ret
    exact ⟨rfl, rfl⟩
  · go_enter Tryd.func19, Tryd.ntmps19
    go_wp2
    go_ret
    exact ⟨rfl, rfl⟩
  · have hb : barB n = false := decide_eq_false (by omega)
    have e1 : (n == 204) = false := beq_eq_false_iff_ne.2 h1
    have e2 : (n == 304) = false := beq_eq_false_iff_ne.2 h2
    rw [hb]
    clear hb h1 h2
    go_enter Tryd.func19, Tryd.ntmps19
    go_wp2
    go_ret
    exact ⟨rfl, rfl⟩
theorem new3 (w : World) (a b c : Value) (T : TypeId) : (w.alloc (.cells #[a, b, c] T)).heap[w.heap.size]? = some (.cells #[a, b, c] T (0, 0)) := heap_alloc_new w _
def ofBody (n : Int) (b : ByteArray) : ByteArray := if barB n then ⟨#[]⟩ else b
theorem bel3 (w : World) (o : Obj) (x y z : Value) : Below w.heap.size w ((((w.alloc o).setCell ⟨w.heap.size, 0, none⟩ x).setCell ⟨w.heap.size, 1, none⟩ y).setCell ⟨w.heap.size, 2, none⟩ z) :=
  ((((Below.refl _ _).alloc (Nat.le_refl _) o).setCell (p := ⟨w.heap.size, 0, none⟩) (Nat.le_refl _) x).setCell (p := ⟨w.heap.size, 1, none⟩) (Nat.le_refl _) y).setCell (p := ⟨w.heap.size, 2, none⟩) (Nat.le_refl _) z
theorem st3 {w : World} {g : Nat} {a b c : Value} {t : TypeId} (h : w.heap[g]? = some (.cells #[a, b, c] t (0, 0))) (x y z : Value) : (((w.setCell ⟨g, 0, none⟩ x).setCell ⟨g, 1, none⟩ y).setCell ⟨g, 2, none⟩ z).heap[g]? = some (.cells #[x, y, z] t (0, 0)) := by
  simpa using blk_set (blk_set (blk_set h 0 x) 1 y) 2 z
theorem cells3 {w : World} {g : Nat} {a b c : Value} {t : TypeId} (h : w.heap[g]? = some (.cells #[a, b, c] t (0, 0))) : w.cell? ⟨g, 0, none⟩ = some a ∧ w.cell? ⟨g, 1, none⟩ = some b ∧ w.cell? ⟨g, 2, none⟩ = some c := ⟨cell_of_row _ _ 0 _ _ _ h, cell_of_row _ _ 1 _ _ _ h, cell_of_row _ _ 2 _ _ _ h⟩
set_option maxRecDepth 100000 in
set_option maxHeartbeats 2000000 in
theorem Of_c (n : Int) (b : ByteArray) (w : World) : Calls Tryd.prog 18 #[.int .i64 n, .string b] w fun e w' => e = .returned (.agg #[.int .i64 n, .slice none 0 0, .string (ofBody n b)]) ∧ Below w.heap.size w w' := by
  have HB := Lib.hid (fun W => Bare_c n W)
  unfold ofBody
  cases hb : barB n with
  | true =>
    rw [hb] at HB
    rw [if_pos rfl]
    have hk := new3 w (.int .i64 n) (.slice none 0 0) (.string ⟨#[]⟩) 31
    have HD := Lib.hid (cells3 hk)
    have HBL := Lib.hid ((Below.refl w.heap.size w).alloc (Nat.le_refl _) (.cells #[.int .i64 n, .slice none 0 0, .string ⟨#[]⟩] 31))
    clear hk hb
    go_enter Tryd.func18, Tryd.ntmps18
    go_wp2_with fail
    refine (HB.out _).mono ?_
    rintro e w1 ⟨rfl, hw⟩
    rw [← hw]; clear hw
    go_wp2
    obtain ⟨d0, d1, d2⟩ := HD.out
    (with_reducible refine bodyPost_ret (v := .agg #[.int .i64 n, .slice none 0 0, .string ⟨#[]⟩]) (by simp [results, Tryd.results18, go_sem, d0, d1, d2]) rfl ⟨rfl, HBL.out⟩)
  | false =>
    rw [hb] at HB
    rw [if_neg (by simp)]
    have hk := new3 w (.int .i64 n) (.slice none 0 0) (.string b) 31
    have HD := Lib.hid (cells3 hk)
    have HBL := Lib.hid ((Below.refl w.heap.size w).alloc (Nat.le_refl _) (.cells #[.int .i64 n, .slice none 0 0, .string b] 31))
    clear hk hb
    go_enter Tryd.func18, Tryd.ntmps18
    go_wp2_with fail
    refine (HB.out _).mono ?_
    rintro e w1 ⟨rfl, hw⟩
    rw [← hw]; clear hw
    go_wp2
    obtain ⟨d0, d1, d2⟩ := HD.out
    (with_reducible refine bodyPost_ret (v := .agg #[.int .i64 n, .slice none 0 0, .string b]) (by simp [results, Tryd.results18, go_sem, d0, d1, d2]) rfl ⟨rfl, HBL.out⟩)
def CdR (w : World) (W : World) : Prop := Below w.heap.size w W ∧ (∀ j, j < 18 → W.cell? ⟨w.heap.size, j, none⟩ = some (.int .i64 (codeAt j))) ∧ ∀ j, j < 18 → W.cell? ⟨w.heap.size + 1, j, none⟩ = some (.string (mkS (wordAt j)))
theorem heap_old {w : World} {g : Nat} {o : Obj} (p : Obj) (h : w.heap[g]? = some o) : (w.alloc p).heap[g]? = some o := (((Below.refl w.heap.size w).alloc (Nat.le_refl _) p).block g (Array.getElem?_eq_some_iff.1 h).1).trans h
theorem cases18 {j : Nat} (h : j < 18) : j = 0 ∨ j = 1 ∨ j = 2 ∨ j = 3 ∨ j = 4 ∨ j = 5 ∨ j = 6 ∨ j = 7 ∨ j = 8 ∨ j = 9 ∨ j = 10 ∨ j = 11 ∨ j = 12 ∨ j = 13 ∨ j = 14 ∨ j = 15 ∨ j = 16 ∨ j = 17 := by omega
theorem row_at {V : List Value} {l : List Value} (h : V = l) (j : Nat) (v : Value) (hv : l[j]? = some v) : V.toArray[j]? = some v := by subst h; simpa using hv
theorem cd_new (w : World) (T U : TypeId) : CdR w ((w.alloc (.cells #[.int .i64 200, .int .i64 201, .int .i64 204, .int .i64 304, .int .i64 400, .int .i64 404, .int .i64 405, .int .i64 408, .int .i64 410, .int .i64 412, .int .i64 413, .int .i64 414, .int .i64 428, .int .i64 431, .int .i64 501, .int .i64 503, .int .i64 505, .int .i64 507] T)).alloc (.cells #[.string ⟨#[79, 75]⟩, .string ⟨#[67, 114, 101, 97, 116, 101, 100]⟩, .string ⟨#[78, 111, 32, 67, 111, 110, 116, 101, 110, 116]⟩, .string ⟨#[78, 111, 116, 32, 77, 111, 100, 105, 102, 105, 101, 100]⟩, .string ⟨#[66, 97, 100, 32, 82, 101, 113, 117, 101, 115, 116]⟩, .string ⟨#[78, 111, 116, 32, 70, 111, 117, 110, 100]⟩, .string ⟨#[77, 101, 116, 104, 111, 100, 32, 78, 111, 116, 32, 65, 108, 108, 111, 119, 101, 100]⟩, .string ⟨#[82, 101, 113, 117, 101, 115, 116, 32, 84, 105, 109, 101, 111, 117, 116]⟩, .string ⟨#[71, 111, 110, 101]⟩, .string ⟨#[80, 114, 101, 99, 111, 110, 100, 105, 116, 105, 111, 110, 32, 70, 97, 105, 108, 101, 100]⟩, .string ⟨#[67, 111, 110, 116, 101, 110, 116, 32, 84, 111, 111, 32, 76, 97, 114, 103, 101]⟩, .string ⟨#[85, 82, 73, 32, 84, 111, 111, 32, 76, 111, 110, 103]⟩, .string ⟨#[80, 114, 101, 99, 111, 110, 100, 105, 116, 105, 111, 110, 32, 82, 101, 113, 117, 105, 114, 101, 100]⟩, .string ⟨#[82, 101, 113, 117, 101, 115, 116, 32, 72, 101, 97, 100, 101, 114, 32, 70, 105, 101, 108, 100, 115, 32, 84, 111, 111, 32, 76, 97, 114, 103, 101]⟩, .string ⟨#[78, 111, 116, 32, 73, 109, 112, 108, 101, 109, 101, 110, 116, 101, 100]⟩, .string ⟨#[83, 101, 114, 118, 105, 99, 101, 32, 85, 110, 97, 118, 97, 105, 108, 97, 98, 108, 101]⟩, .string ⟨#[72, 84, 84, 80, 32, 86, 101, 114, 115, 105, 111, 110, 32, 78, 111, 116, 32, 83, 117, 112, 112, 111, 114, 116, 101, 100]⟩, .string ⟨#[73, 110, 115, 117, 102, 102, 105, 99, 105, 101, 110, 116, 32, 83, 116, 111, 114, 97, 103, 101]⟩] U)) := by
  have hz : ∀ o, (w.alloc o).heap.size = w.heap.size + 1 := fun o => by simp
  have hb := (Below.refl w.heap.size w).alloc (Nat.le_refl _) (.cells #[.int .i64 200, .int .i64 201, .int .i64 204, .int .i64 304, .int .i64 400, .int .i64 404, .int .i64 405, .int .i64 408, .int .i64 410, .int .i64 412, .int .i64 413, .int .i64 414, .int .i64 428, .int .i64 431, .int .i64 501, .int .i64 503, .int .i64 505, .int .i64 507] T)
  have hk := heap_alloc_new w (.cells #[.int .i64 200, .int .i64 201, .int .i64 204, .int .i64 304, .int .i64 400, .int .i64 404, .int .i64 405, .int .i64 408, .int .i64 410, .int .i64 412, .int .i64 413, .int .i64 414, .int .i64 428, .int .i64 431, .int .i64 501, .int .i64 503, .int .i64 505, .int .i64 507] T)
  have hk2 := heap_alloc_new (w.alloc (.cells #[.int .i64 200, .int .i64 201, .int .i64 204, .int .i64 304, .int .i64 400, .int .i64 404, .int .i64 405, .int .i64 408, .int .i64 410, .int .i64 412, .int .i64 413, .int .i64 414, .int .i64 428, .int .i64 431, .int .i64 501, .int .i64 503, .int .i64 505, .int .i64 507] T)) (.cells #[.string ⟨#[79, 75]⟩, .string ⟨#[67, 114, 101, 97, 116, 101, 100]⟩, .string ⟨#[78, 111, 32, 67, 111, 110, 116, 101, 110, 116]⟩, .string ⟨#[78, 111, 116, 32, 77, 111, 100, 105, 102, 105, 101, 100]⟩, .string ⟨#[66, 97, 100, 32, 82, 101, 113, 117, 101, 115, 116]⟩, .string ⟨#[78, 111, 116, 32, 70, 111, 117, 110, 100]⟩, .string ⟨#[77, 101, 116, 104, 111, 100, 32, 78, 111, 116, 32, 65, 108, 108, 111, 119, 101, 100]⟩, .string ⟨#[82, 101, 113, 117, 101, 115, 116, 32, 84, 105, 109, 101, 111, 117, 116]⟩, .string ⟨#[71, 111, 110, 101]⟩, .string ⟨#[80, 114, 101, 99, 111, 110, 100, 105, 116, 105, 111, 110, 32, 70, 97, 105, 108, 101, 100]⟩, .string ⟨#[67, 111, 110, 116, 101, 110, 116, 32, 84, 111, 111, 32, 76, 97, 114, 103, 101]⟩, .string ⟨#[85, 82, 73, 32, 84, 111, 111, 32, 76, 111, 110, 103]⟩, .string ⟨#[80, 114, 101, 99, 111, 110, 100, 105, 116, 105, 111, 110, 32, 82, 101, 113, 117, 105, 114, 101, 100]⟩, .string ⟨#[82, 101, 113, 117, 101, 115, 116, 32, 72, 101, 97, 100, 101, 114, 32, 70, 105, 101, 108, 100, 115, 32, 84, 111, 111, 32, 76, 97, 114, 103, 101]⟩, .string ⟨#[78, 111, 116, 32, 73, 109, 112, 108, 101, 109, 101, 110, 116, 101, 100]⟩, .string ⟨#[83, 101, 114, 118, 105, 99, 101, 32, 85, 110, 97, 118, 97, 105, 108, 97, 98, 108, 101]⟩, .string ⟨#[72, 84, 84, 80, 32, 86, 101, 114, 115, 105, 111, 110, 32, 78, 111, 116, 32, 83, 117, 112, 112, 111, 114, 116, 101, 100]⟩, .string ⟨#[73, 110, 115, 117, 102, 102, 105, 99, 105, 101, 110, 116, 32, 83, 116, 111, 114, 97, 103, 101]⟩] U)
  rw [hz] at hk2
  have hk1 := heap_old (.cells #[.string ⟨#[79, 75]⟩, .string ⟨#[67, 114, 101, 97, 116, 101, 100]⟩, .string ⟨#[78, 111, 32, 67, 111, 110, 116, 101, 110, 116]⟩, .string ⟨#[78, 111, 116, 32, 77, 111, 100, 105, 102, 105, 101, 100]⟩, .string ⟨#[66, 97, 100, 32, 82, 101, 113, 117, 101, 115, 116]⟩, .string ⟨#[78, 111, 116, 32, 70, 111, 117, 110, 100]⟩, .string ⟨#[77, 101, 116, 104, 111, 100, 32, 78, 111, 116, 32, 65, 108, 108, 111, 119, 101, 100]⟩, .string ⟨#[82, 101, 113, 117, 101, 115, 116, 32, 84, 105, 109, 101, 111, 117, 116]⟩, .string ⟨#[71, 111, 110, 101]⟩, .string ⟨#[80, 114, 101, 99, 111, 110, 100, 105, 116, 105, 111, 110, 32, 70, 97, 105, 108, 101, 100]⟩, .string ⟨#[67, 111, 110, 116, 101, 110, 116, 32, 84, 111, 111, 32, 76, 97, 114, 103, 101]⟩, .string ⟨#[85, 82, 73, 32, 84, 111, 111, 32, 76, 111, 110, 103]⟩, .string ⟨#[80, 114, 101, 99, 111, 110, 100, 105, 116, 105, 111, 110, 32, 82, 101, 113, 117, 105, 114, 101, 100]⟩, .string ⟨#[82, 101, 113, 117, 101, 115, 116, 32, 72, 101, 97, 100, 101, 114, 32, 70, 105, 101, 108, 100, 115, 32, 84, 111, 111, 32, 76, 97, 114, 103, 101]⟩, .string ⟨#[78, 111, 116, 32, 73, 109, 112, 108, 101, 109, 101, 110, 116, 101, 100]⟩, .string ⟨#[83, 101, 114, 118, 105, 99, 101, 32, 85, 110, 97, 118, 97, 105, 108, 97, 98, 108, 101]⟩, .string ⟨#[72, 84, 84, 80, 32, 86, 101, 114, 115, 105, 111, 110, 32, 78, 111, 116, 32, 83, 117, 112, 112, 111, 114, 116, 101, 100]⟩, .string ⟨#[73, 110, 115, 117, 102, 102, 105, 99, 105, 101, 110, 116, 32, 83, 116, 111, 114, 97, 103, 101]⟩] U) hk
  refine ⟨hb.alloc hb.size _, fun j hj => ?_, fun j hj => ?_⟩
  · rw [cell_of_row _ _ j _ _ _ hk1]
    rcases cases18 hj with rfl | rfl | rfl | rfl | rfl | rfl | rfl | rfl | rfl | rfl | rfl | rfl | rfl | rfl | rfl | rfl | rfl | rfl <;> rfl
  · rw [cell_of_row _ _ j _ _ _ hk2]
    rcases cases18 hj with rfl | rfl | rfl | rfl | rfl | rfl | rfl | rfl | rfl | rfl | rfl | rfl | rfl | rfl | rfl | rfl | rfl | rfl <;> rfl
set_option maxRecDepth 100000 in
set_option maxHeartbeats 4000000 in
theorem ReasonR_c (n : Int) (w : World) : Calls Tryd.prog 21 #[.int .i64 n] w fun e w' => e = .returned (.string (mkS (rsnL n))) ∧ Below w.heap.size w w' := by
  obtain ⟨W0, hW0, HC⟩ : ∃ W0, W0 = (w.alloc (.cells #[.int .i64 200, .int .i64 201, .int .i64 204, .int .i64 304, .int .i64 400, .int .i64 404, .int .i64 405, .int .i64 408, .int .i64 410, .int .i64 412, .int .i64 413, .int .i64 414, .int .i64 428, .int .i64 431, .int .i64 501, .int .i64 503, .int .i64 505, .int .i64 507] 3)).alloc (.cells #[.string ⟨#[79, 75]⟩, .string ⟨#[67, 114, 101, 97, 116, 101, 100]⟩, .string ⟨#[78, 111, 32, 67, 111, 110, 116, 101, 110, 116]⟩, .string ⟨#[78, 111, 116, 32, 77, 111, 100, 105, 102, 105, 101, 100]⟩, .string ⟨#[66, 97, 100, 32, 82, 101, 113, 117, 101, 115, 116]⟩, .string ⟨#[78, 111, 116, 32, 70, 111, 117, 110, 100]⟩, .string ⟨#[77, 101, 116, 104, 111, 100, 32, 78, 111, 116, 32, 65, 108, 108, 111, 119, 101, 100]⟩, .string ⟨#[82, 101, 113, 117, 101, 115, 116, 32, 84, 105, 109, 101, 111, 117, 116]⟩, .string ⟨#[71, 111, 110, 101]⟩, .string ⟨#[80, 114, 101, 99, 111, 110, 100, 105, 116, 105, 111, 110, 32, 70, 97, 105, 108, 101, 100]⟩, .string ⟨#[67, 111, 110, 116, 101, 110, 116, 32, 84, 111, 111, 32, 76, 97, 114, 103, 101]⟩, .string ⟨#[85, 82, 73, 32, 84, 111, 111, 32, 76, 111, 110, 103]⟩, .string ⟨#[80, 114, 101, 99, 111, 110, 100, 105, 116, 105, 111, 110, 32, 82, 101, 113, 117, 105, 114, 101, 100]⟩, .string ⟨#[82, 101, 113, 117, 101, 115, 116, 32, 72, 101, 97, 100, 101, 114, 32, 70, 105, 101, 108, 100, 115, 32, 84, 111, 111, 32, 76, 97, 114, 103, 101]⟩, .string ⟨#[78, 111, 116, 32, 73, 109, 112, 108, 101, 109, 101, 110, 116, 101, 100]⟩, .string ⟨#[83, 101, 114, 118, 105, 99, 101, 32, 85, 110, 97, 118, 97, 105, 108, 97, 98, 108, 101]⟩, .string ⟨#[72, 84, 84, 80, 32, 86, 101, 114, 115, 105, 111, 110, 32, 78, 111, 116, 32, 83, 117, 112, 112, 111, 114, 116, 101, 100]⟩, .string ⟨#[73, 110, 115, 117, 102, 102, 105, 99, 105, 101, 110, 116, 32, 83, 116, 111, 114, 97, 103, 101]⟩] 9) ∧ Hid (CdR w W0) := ⟨_, rfl, cd_new w _ _⟩
  have HWE := Lib.hid hW0
  clear hW0
  generalize hr : mkS (rsnL n) = r
  have HR := Lib.hid hr
  clear hr
  go_enter Tryd.func21, Tryd.ntmps21
  go_wp2
  rw [← HWE.out]
  clear HWE
  go_loop [11] (fun i => ∃ j : Nat, j ≤ 18 ∧ i = .int .i64 j ∧ Hid (∀ k, k < j → codeAt k ≠ n)) (fun i => 18 - (intOf i).toNat)
  case atStart => exact ⟨0, by omega, rfl, Lib.hid (fun k hk => absurd hk (Nat.not_lt_zero _))⟩
  case round =>
    obtain ⟨j, hj, rfl, HN⟩ := hrel
    by_cases hlt : j < 18
    · have k0 := HC.out.2.1 j hlt
      have k1 := HC.out.2.2 j hlt
      have hj0 : (0 : Int) ≤ (j : Int) := by omega
      have hjl : (j : Int) < 18 := by omega
      have HE := Lib.hid (rsn_at j hlt)
      by_cases hc : codeAt j = n
      · have HX : Hid (mkS (wordAt j) = r) := by show _ = _; rw [← HE.out, hc, HR.out]
        have hb : (codeAt j == n) = true := beq_iff_eq.2 hc
        clear hc HE
        revert k0 k1 hb HX
        generalize codeAt j = c
        generalize mkS (wordAt j) = x
        intro k0 k1 HX hb
        go_wp2
        go_ret
        exact ⟨Hd.ret_str HX.out, HC.out.1⟩
      · have hb : (codeAt j == n) = false := beq_eq_false_iff_ne.2 hc
        have HN2 : Hid (∀ k, k < j + 1 → codeAt k ≠ n) := Lib.hid (fun k hk => by
          rcases Nat.lt_succ_iff_lt_or_eq.1 hk with h | h
          · exact HN.out k h
          · rw [h]; exact hc)
        clear hc HE HN
        revert k0 k1 hb
        generalize codeAt j = c
        generalize mkS (wordAt j) = x
        intro k0 k1 hb
        go_wp2
        go_round
        case rel => exact ⟨j + 1, by omega, by go_num, HN2⟩
        case measure => simp [intOf]; omega
    · have HX : Hid (mkS [85, 110, 107, 110, 111, 119, 110] = r) := by show _ = _; rw [← HR.out, rsn_no (fun k hk => HN.out k (by omega))]
      go_wp2
      go_ret
      exact ⟨Hd.ret_str HX.out, HC.out.1⟩
end Go.Proofs.YtolfenachbbjdaaDoor.Rp
