/- Contracts of the steps of package chunk's reader: for every text of at most a thousand bytes; where the library's variable MaxLen holds a number. -/
import Derived.Test.YteegbcjpganobaaDoorCkBld
import Derived.Test.YteegbcjpganobaaDoorCkSize
namespace Go.Proofs.YteegbcjpganobaaDoor.Hd
open Go.RowKit Ch
set_option linter.unusedSimpArgs false
set_option linter.unusedVariables false

theorem gb_bel {w w' : World} {g : Nat} (h : w.grownBy w' (some g)) (hg : g ≤ w.heap.size) : Below g w w' := ⟨h.os, h.tape, h.output, h.size, fun k hk => h.block k (by omega) (fun e => by injection e with e; omega)⟩
theorem Mx.bel {w w' : World} {g : Nat} (h : Mx w) (hb : Below g w w') (hg : 3 < g) : Mx w' := by
  obtain ⟨m, h⟩ := h
  exact ⟨m, (hb.cell (p := ⟨3, 0, none⟩) hg).trans h⟩
theorem St.gb {g : Nat} {s : ByteArray} {k k' : Nat} {a b c sz n st sz' n' st' : Int} {p v : Value} {l : List UInt8} {w w' : World} (h1 : CkB g s k' a b c sz' n' p v st' w') (h2 : p = .pointer none ∨ p = .pointer (some ⟨g, 7, none⟩)) (h3 : OwB (g + 1) v l w) (h4 : l = [] → v = .slice none 0 0) (hb : w.grownBy w' (some g)) : St g s k' a b c sz' n' l st' w' := ⟨p, v, h1, h2, h3.gb hb (Nat.lt_succ_self _), h4⟩
set_option maxRecDepth 100000 in
set_option maxHeartbeats 1000000 in
theorem refuse_c (g : Nat) (s : ByteArray) (k : Nat) (a b c sz n : Int) (p v : Value) (st x : Int) (w : World) (h : CkB g s k a b c sz n p v st w) :
    Calls Tryd.prog 27 #[.pointer (some ⟨g, 0, none⟩), .int .i64 x] w fun e w' => e = .returned .nilFunc ∧ CkB g s k a b c sz n p v x w' ∧ w.grownBy w' (some g) := by
  have H := Lib.hid h
  have c9 := heap_cell h 9
  have f9 := frz2 h 9
  clear h
  go_enter Tryd.func27, Tryd.ntmps27
  go_wp2
  go_ret
  exact ⟨rfl, (set10 H.out _).2.2.2.2.2, gb_set _ _ _ _⟩
set_option maxRecDepth 100000 in
set_option maxHeartbeats 4000000 in
theorem ln_ok (g : Nat) (s t : ByteArray) (k j : Nat) (a b c sz n : Int) (p v : Value) (st lg : Int) (w : World) (h : CkB g s k a b c sz n p v st w) (hM : Mx w) (hg : 3 < g) (hs : s.size ≤ 10000) (hk : k ≤ s.size) (hj : k + (j + 2) ≤ s.size)
    (HL : Hid (∀ W, Mx W → Calls Tryd.prog 34 #[.string (s.extract k s.size), .int .i64 a] W fun e w' => e = .returned (.tuple #[.string t, .int .i64 ((j : Int) + 2), .bool true]) ∧ Below W.heap.size W w')) :
    Calls Tryd.prog 24 #[.pointer (some ⟨g, 0, none⟩), .int .i64 lg] w fun e w' => e = .returned (.tuple #[.string t, .bool true]) ∧ CkB g s (k + (j + 2)) a b c sz n p v st w' ∧ w.grownBy w' (some g) := by
  have H := Lib.hid h
  have HM := Lib.hid hM
  have c0 := heap_cell h 0
  have c1 := heap_cell h 1
  have c2 := heap_cell h 2
  have hk0 : (0 : Int) ≤ (k : Int) := by omega
  have hk1 : (k : Int) ≤ (s.size : Int) := by omega
  clear h hM
  go_enter Tryd.func24, Tryd.ntmps24
  go_wp2_with fail
  go_region_held3 (fun V => V.cell? ⟨g, 0, none⟩ = some (.string s) ∧ V.cell? ⟨g, 1, none⟩ = some (.int .i64 (k : Int)) ∧ V.cell? ⟨g, 2, none⟩ = some (.int .i64 a))
    (first | exact ⟨e0, e1, e2⟩ | exact ⟨c0, c1, c2⟩)
    (first | (go_at_call 34; refine (HL.out _ HM.out.drew).mono ?_; rintro e w3 ⟨rfl, hb3⟩; have H3 : Hid (CkB g s k a b c sz n p v st w3) := (hb3.block g H.out.lt).trans H.out; have HG3 : Hid (w.grownBy w3 (some g)) := gb_trans (gb_drew _ _) (gb_below hb3); have e0 := heap_cell H3.out 0; have e1 := heap_cell H3.out 1; have e2 := heap_cell H3.out 2; clear hb3))
  clear c0 c1 c2 e0 e1 e2
  have d1 := heap_cell H3.out 1
  have f1 := frz2 H3.out 1
  have hz : ((j : Int) + 2 == 0) = false := beq_eq_false_iff_ne.2 (by omega)
  have hsum : (k : Int) + ((j : Int) + 2) = ((k + (j + 2) : Nat) : Int) := by omega
  have HS := Lib.hid (set10 H3.out (.int .i64 ((k + (j + 2) : Nat) : Int))).1
  have HS' : Hid (CkB g s (k + (j + 2)) a b c sz n p v st (w3.setCell ⟨g, 1, none⟩ (.int .i64 ((k : Int) + ((j : Int) + 2))))) := by rw [hsum]; exact HS
  clear HS hsum
  go_wp2
  go_ret2
  exact ⟨rfl, HS'.out, gb_trans HG3.out (gb_set _ _ _ _)⟩
set_option maxRecDepth 100000 in
set_option maxHeartbeats 4000000 in
theorem ln_more (g : Nat) (s t : ByteArray) (k j : Nat) (a b c sz n : Int) (p v : Value) (st lg : Int) (w : World) (h : CkB g s k a b c sz n p v st w) (hM : Mx w) (hg : 3 < g) (hs : s.size ≤ 10000) (hk : k ≤ s.size)
    (HL : Hid (∀ W, Mx W → Calls Tryd.prog 34 #[.string (s.extract k s.size), .int .i64 a] W fun e w' => e = .returned (.tuple #[.string ⟨#[]⟩, .int .i64 0, .bool true]) ∧ Below W.heap.size W w')) :
    Calls Tryd.prog 24 #[.pointer (some ⟨g, 0, none⟩), .int .i64 lg] w fun e w' => e = .returned (.tuple #[.string ⟨#[]⟩, .bool false]) ∧ CkB g s k a b c sz n p v 1 w' ∧ w.grownBy w' (some g) := by
  have H := Lib.hid h
  have HM := Lib.hid hM
  have c0 := heap_cell h 0
  have c1 := heap_cell h 1
  have c2 := heap_cell h 2
  have hk0 : (0 : Int) ≤ (k : Int) := by omega
  have hk1 : (k : Int) ≤ (s.size : Int) := by omega
  clear h hM
  go_enter Tryd.func24, Tryd.ntmps24
  go_wp2_with fail
  go_region_held3 (fun V => V.cell? ⟨g, 0, none⟩ = some (.string s) ∧ V.cell? ⟨g, 1, none⟩ = some (.int .i64 (k : Int)) ∧ V.cell? ⟨g, 2, none⟩ = some (.int .i64 a))
    (first | exact ⟨e0, e1, e2⟩ | exact ⟨c0, c1, c2⟩)
    (first | (go_at_call 34; refine (HL.out _ HM.out.drew).mono ?_; rintro e w3 ⟨rfl, hb3⟩; have H3 : Hid (CkB g s k a b c sz n p v st w3) := (hb3.block g H.out.lt).trans H.out; have HG3 : Hid (w.grownBy w3 (some g)) := gb_trans (gb_drew _ _) (gb_below hb3); have e0 := heap_cell H3.out 0; have e1 := heap_cell H3.out 1; have e2 := heap_cell H3.out 2; clear hb3))
  clear c0 c1 c2 e0 e1 e2
  have d9 := heap_cell H3.out 9
  have f9 := frz2 H3.out 9
  have HS := Lib.hid (set10 H3.out (.int .i64 1)).2.2.2.2.2
  go_wp2
  go_ret2
  exact ⟨rfl, HS.out, gb_trans HG3.out (gb_set _ _ _ _)⟩
set_option maxRecDepth 100000 in
set_option maxHeartbeats 4000000 in
theorem ln_long (g : Nat) (s t : ByteArray) (k j : Nat) (a b c sz n : Int) (p v : Value) (st lg : Int) (w : World) (h : CkB g s k a b c sz n p v st w) (hM : Mx w) (hg : 3 < g) (hs : s.size ≤ 10000) (hk : k ≤ s.size)
    (HL : Hid (∀ W, Mx W → Calls Tryd.prog 34 #[.string (s.extract k s.size), .int .i64 a] W fun e w' => e = .returned (.tuple #[.string ⟨#[]⟩, .int .i64 0, .bool false]) ∧ Below W.heap.size W w')) :
    Calls Tryd.prog 24 #[.pointer (some ⟨g, 0, none⟩), .int .i64 lg] w fun e w' => e = .returned (.tuple #[.string ⟨#[]⟩, .bool false]) ∧ CkB g s k a b c sz n p v lg w' ∧ w.grownBy w' (some g) := by
  have H := Lib.hid h
  have HM := Lib.hid hM
  have c0 := heap_cell h 0
  have c1 := heap_cell h 1
  have c2 := heap_cell h 2
  have hk0 : (0 : Int) ≤ (k : Int) := by omega
  have hk1 : (k : Int) ≤ (s.size : Int) := by omega
  clear h hM
  go_enter Tryd.func24, Tryd.ntmps24
  go_wp2_with fail
  go_region_held3 (fun V => V.cell? ⟨g, 0, none⟩ = some (.string s) ∧ V.cell? ⟨g, 1, none⟩ = some (.int .i64 (k : Int)) ∧ V.cell? ⟨g, 2, none⟩ = some (.int .i64 a))
    (first | exact ⟨e0, e1, e2⟩ | exact ⟨c0, c1, c2⟩)
    (first | (go_at_call 34; refine (HL.out _ HM.out.drew).mono ?_; rintro e w3 ⟨rfl, hb3⟩; have H3 : Hid (CkB g s k a b c sz n p v st w3) := (hb3.block g H.out.lt).trans H.out; have HG3 : Hid (w.grownBy w3 (some g)) := gb_trans (gb_drew _ _) (gb_below hb3); have e0 := heap_cell H3.out 0; have e1 := heap_cell H3.out 1; have e2 := heap_cell H3.out 2; clear hb3))
  clear c0 c1 c2 e0 e1 e2
  have d9 := heap_cell H3.out 9
  have f9 := frz2 H3.out 9
  have HS := Lib.hid (set10 H3.out (.int .i64 lg)).2.2.2.2.2
  go_wp2
  go_ret2
  exact ⟨rfl, HS.out, gb_trans HG3.out (gb_set _ _ _ _)⟩
def LnQ (g : Nat) (s : ByteArray) (k : Nat) (a b c sz n : Int) (p v : Value) (st : Int) (q : Except Int Nat) (w : World) (e : Ending) (w' : World) : Prop := match q with
  | .ok j => e = .returned (.tuple #[.string (mkS ((s.data.toList.drop k).take j)), .bool true]) ∧ CkB g s (k + (j + 2)) a b c sz n p v st w' ∧ w.grownBy w' (some g)
  | .error x => e = .returned (.tuple #[.string ⟨#[]⟩, .bool false]) ∧ CkB g s k a b c sz n p v x w' ∧ w.grownBy w' (some g)
theorem line_c (g : Nat) (s : ByteArray) (k : Nat) (a b c sz n : Int) (p v : Value) (st lg : Int) (w : World) (h : CkB g s k a b c sz n p v st w) (hM : Mx w) (hg : 3 < g) (hs : s.size ≤ 10000) (hk : k ≤ s.size) :
    Calls Tryd.prog 24 #[.pointer (some ⟨g, 0, none⟩), .int .i64 lg] w (LnQ g s k a b c sz n p v st (nxE s.data.toList k a lg) w) := by
  have hx : (s.extract k s.size).data.toList = s.data.toList.drop k := by rw [extN, data_mkS]
  have hxz : (s.extract k s.size).size ≤ 10000 := by rw [ByteArray.size_extract]; omega
  have HL := Lib.hid (fun W h => Line_c (s.extract k s.size) a W hxz h)
  rw [hx] at HL
  cases he : endL (s.data.toList.drop k) with
  | none =>
    rw [he] at HL
    unfold lnV at HL
    simp only at HL
    by_cases h' : ((s.data.toList.drop k).length : Int) - 1 ≤ a
    · rw [decide_eq_true h'] at HL
      have e : nxE s.data.toList k a lg = .error 1 := by unfold nxE; rw [he]; simp only; rw [if_pos h']
      rw [e]
      exact ln_more g s s k 0 a b c sz n p v st lg w h hM hg hs hk HL
    · rw [decide_eq_false h'] at HL
      have e : nxE s.data.toList k a lg = .error lg := by unfold nxE; rw [he]; simp only; rw [if_neg h']
      rw [e]
      exact ln_long g s s k 0 a b c sz n p v st lg w h hM hg hs hk HL
  | some j =>
    rw [he] at HL
    unfold lnV at HL
    simp only at HL
    by_cases h' : a < (j : Int)
    · rw [if_pos h'] at HL
      have e : nxE s.data.toList k a lg = .error lg := by unfold nxE; rw [he]; simp only; rw [if_pos h']
      rw [e]
      exact ln_long g s s k 0 a b c sz n p v st lg w h hM hg hs hk HL
    · rw [if_neg h'] at HL
      have e : nxE s.data.toList k a lg = .ok j := by unfold nxE; rw [he]; simp only; rw [if_neg h']
      have hr := nx_room (by rw [← Lib.size_eq]; exact hk) e
      rw [e]
      exact ln_ok g s _ k j a b c sz n p v st lg w h hM hg hs hk (by rw [Lib.size_eq]; exact hr) HL
end Go.Proofs.YteegbcjpganobaaDoor.Hd
