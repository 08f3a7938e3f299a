/- The walk of PageCursor. -/
import Derived.Test.YtbafjilhopgjmaaDoorPgH
namespace Go.Proofs.YtbafjilhopgjmaaDoor.Pg
open Go.RowKit Ch
set_option linter.unusedSimpArgs false
set_option linter.unusedVariables false

theorem rd_pr (a b : Int) (a0 : -9223372036854775808 ≤ a) (a1 : a ≤ 9223372036854775807) (b0 : -9223372036854775808 ≤ b) (b1 : b ≤ 9223372036854775807) :
    rdC (prC a b) = if 1 ≤ a ∧ a ≤ 2147483647 ∧ 0 ≤ b ∧ b ≤ 2147483647 then some (a, b) else none := by
  by_cases h : a < 1 ∨ b < 0
  · have e : prC a b = [] := by unfold prC; rw [if_pos h]
    rw [e, if_neg (by omega)]; decide
  · have e : prC a b = txC a b := by unfold prC; rw [if_neg h]
    rw [e]
    by_cases h2 : 1 ≤ a ∧ a ≤ 2147483647 ∧ 0 ≤ b ∧ b ≤ 2147483647
    · rw [if_pos h2, (rdC_iff _ a b).2 ⟨h2.1, h2.2.1, h2.2.2.1, h2.2.2.2, rfl⟩]
    · rw [if_neg h2]
      have ep := pre_cons (Lib.itoa a ++ 46 :: Lib.itoa b)
      have ec := cutP_at (c := 46) (p := Lib.itoa a) (q := Lib.itoa b) (itoa_46 (by omega))
      have hh : Lib.trimPrefix (txC a b) [112] = Lib.itoa a ++ 46 :: Lib.itoa b := ep.2
      unfold rdC
      rw [hh, ec]
      simp only
      rw [(Nu.itoa_back a (by omega) (by omega)).1, (Nu.itoa_back b (by omega) (by omega)).1, if_neg (fun hc => h2 ⟨by omega, hc.2.1, by omega, hc.2.2.1⟩)]
theorem pr_emp (a b : Int) : (mkS (prC a b)).toList.isEmpty = decide (a < 1 ∨ b < 0) := by
  rw [str_empty]
  unfold prC
  by_cases h : a < 1 ∨ b < 0
  · rw [if_pos h, decide_eq_true h]; rfl
  · rw [if_neg h, decide_eq_false h]; rfl
/-- what the first half of the statement leaves to be told apart -/
def Way (a b : Int) (t : ByteArray) (q : Option (Int × Int)) : Prop :=
  (q = some (a, b) ∧ t.toList.isEmpty = false ∧ a < 2147483648 ∧ b < 2147483648) ∨ (q = none ∧ t.toList.isEmpty = true) ∨
  (q = none ∧ t.toList.isEmpty = false ∧ 2147483648 ≤ a) ∨ (q = none ∧ t.toList.isEmpty = false ∧ a < 2147483648 ∧ 2147483648 ≤ b)
theorem way_of (a b : Int) (a0 : -9223372036854775808 ≤ a) (a1 : a ≤ 9223372036854775807) (b0 : -9223372036854775808 ≤ b) (b1 : b ≤ 9223372036854775807) : Way a b (mkS (prC a b)) (rdC (prC a b)) := by
  unfold Way
  rw [rd_pr a b a0 a1 b0 b1, pr_emp]
  by_cases h : a < 1 ∨ b < 0
  · exact .inr (.inl ⟨if_neg (by omega), decide_eq_true h⟩)
  · rw [decide_eq_false h]
    by_cases ha : a < 2147483648
    · by_cases hb : b < 2147483648
      · exact .inl ⟨if_pos (by omega), rfl, ha, hb⟩
      · exact .inr (.inr (.inr ⟨if_neg (by omega), rfl, ha, by omega⟩))
    · exact .inr (.inr (.inl ⟨if_neg (by omega), rfl, by omega⟩))
theorem mk2 (w w3 : World) (A B : Int) (h : Hid (Below w.heap.size w w3)) : ∃ W, W = w3.alloc (.cells #[.int .i64 A, .int .i64 B] 25) ∧ W.cell? ⟨w3.heap.size, 0, none⟩ = some (.int .i64 A) ∧ W.cell? ⟨w3.heap.size, 1, none⟩ = some (.int .i64 B) ∧ Hid (Below w.heap.size w W) ∧ W.heap.size = w3.heap.size + 1 :=
  ⟨_, rfl, (new2 w3 _ _ _).1, (new2 w3 _ _ _).2, h.out.alloc h.out.size _, by rw [World.size_alloc]⟩
set_option maxRecDepth 100000 in
set_option maxHeartbeats 8000000 in
theorem cursor_p (a b A B e1 c d f : Int) (ok : Bool) (x s t : ByteArray) (w : World) (HT : Hid (Nu.Tabs w))
    (hw : (e1 = 0 ∧ A = a ∧ B = b ∧ t.toList.isEmpty = false ∧ a < 2147483648 ∧ b < 2147483648) ∨ (e1 = 3 ∧ t.toList.isEmpty = true) ∨
      (e1 = 3 ∧ t.toList.isEmpty = false ∧ ¬ a < 2147483648) ∨ (e1 = 3 ∧ t.toList.isEmpty = false ∧ a < 2147483648 ∧ ¬ b < 2147483648))
    (hf : (f = 0 ∧ ok = true) ∨ (f = 3 ∧ ok = false))
    (hsh : Hid (∀ W, Calls Tryd.prog 5 #[.string x] W fun e w' => e = .returned (.string s) ∧ W = w'))
    (HP : Hid (∀ W, Nu.Tabs W → Calls Tryd.prog 6 #[.agg #[.int .i64 a, .int .i64 b]] W fun e w' => e = .returned (.string t) ∧ Below W.heap.size W w'))
    (HPR : Hid (∀ W, Calls Tryd.prog 8 #[.int .i64 a, .int .i64 b] W fun e w' => e = .returned (.string t) ∧ Below W.heap.size W w'))
    (HR1 : Hid (∀ W, Nu.Tabs W → Calls Tryd.prog 7 #[.string t] W fun e w' => e = .returned (.tuple #[.agg #[.int .i64 A, .int .i64 B], .int .i64 e1]) ∧ Below W.heap.size W w'))
    (HR2 : Hid (∀ W, Nu.Tabs W → Calls Tryd.prog 7 #[.string s] W fun e w' => e = .returned (.tuple #[.agg #[.int .i64 c, .int .i64 d], .int .i64 f]) ∧ Below W.heap.size W w'))
    (HR3 : Hid (∀ W, Calls Tryd.prog 9 #[.string s] W fun e w' => e = .returned (.tuple #[.int .i64 c, .int .i64 d, .bool ok]) ∧ Below W.heap.size W w')) :
    Calls Tryd.prog 3 #[.int .i64 a, .int .i64 b, .string x] w fun e w' => e = .returned (.bool true) ∧ Below w.heap.size w w' := by
  have hs := stood
  rcases hw with ⟨rfl, rfl, rfl, h1, h2, h3⟩ | ⟨rfl, h1⟩ | ⟨rfl, h1, h2⟩ | ⟨rfl, h1, h2, h3⟩ <;> rcases hf with ⟨rfl, rfl⟩ | ⟨rfl, rfl⟩
  all_goals go_enter Tryd.func3, Tryd.ntmps3
  all_goals go_wp2_with fail
  all_goals (with_reducible refine (hsh.out _).mono ?_)
  all_goals rintro e w1 ⟨rfl, hw⟩
  all_goals (rw [← hw]; clear hw)
  all_goals go_wp2_with fail
  all_goals (with_reducible refine (HP.out _ HT.out).mono ?_)
  all_goals rintro e w2 ⟨rfl, hb2⟩
  all_goals have HB2 := Lib.hid hb2
  all_goals have HT2 := Lib.hid (HT.out.go hb2)
  all_goals clear hb2
  all_goals go_wp2_with (go_at_call 7; (with_reducible refine (HR1.out _ HT2.out).mono ?_); rintro e w3 ⟨rfl, hb3⟩; have HB3 : Hid (Below w.heap.size w w3) := HB2.out.trans (hb3.mono HB2.out.size); have HT3 := Lib.hid (HT2.out.go hb3); clear hb3)
  all_goals obtain ⟨W, hW, n0, n1, HBW, hz⟩ := mk2 w w3 A B HB3
  all_goals rw [← hW]
  all_goals clear hW
  all_goals (with_reducible refine (HPR.out _).mono ?_)
  all_goals rintro e w4 ⟨rfl, hb4⟩
  all_goals have p0 := (hb4.cell (p := ⟨w3.heap.size, 0, none⟩) (by rw [hz]; exact Nat.lt_succ_self _)).trans n0
  all_goals have p1 := (hb4.cell (p := ⟨w3.heap.size, 1, none⟩) (by rw [hz]; exact Nat.lt_succ_self _)).trans n1
  all_goals have HB4 : Hid (Below w.heap.size w w4) := HBW.out.trans (hb4.mono HBW.out.size)
  all_goals have HT4 := Lib.hid (HT.out.go HB4.out)
  all_goals clear hb4 n0 n1 hz
  all_goals go_wp2_with (go_at_call 7; (with_reducible refine (HR2.out _ HT4.out).mono ?_); rintro e w5 ⟨rfl, hb5⟩; have HB5 : Hid (Below w.heap.size w w5) := HB4.out.trans (hb5.mono HB4.out.size); have HT5 := Lib.hid (HT4.out.go hb5); clear hb5 p0 p1)
  all_goals obtain ⟨W6, hW6, n0, n1, HBW6, hz6⟩ := mk2 w w5 c d HB5
  all_goals rw [← hW6]
  all_goals clear hW6
  all_goals go_wp2_with (go_at_call 9; (with_reducible refine (HR3.out _).mono ?_); rintro e w7 ⟨rfl, hb7⟩; have p0 := (hb7.cell (p := ⟨w5.heap.size, 0, none⟩) (by rw [hz6]; exact Nat.lt_succ_self _)).trans n0; have p1 := (hb7.cell (p := ⟨w5.heap.size, 1, none⟩) (by rw [hz6]; exact Nat.lt_succ_self _)).trans n1; have HB7 : Hid (Below w.heap.size w w7) := HBW6.out.trans (hb7.mono HBW6.out.size); have HT7 := Lib.hid (HT.out.go HB7.out); clear hb7 n0 n1 hz6)
  all_goals (with_reducible refine (awake_c _ HT7.out).mono ?_)
  all_goals rintro e w9 ⟨rfl, hb9⟩
  all_goals have HB9 : Hid (Below w.heap.size w w9) := HB7.out.trans (hb9.mono HB7.out.size)
  all_goals clear hb9
  all_goals go_wp2
  all_goals go_ret
  all_goals exact ⟨rfl, HB9.out⟩
theorem cursor_walk (a : Int) (wa : (Lit.int .i64 a).wf = true) (b : Int) (wb : (Lit.int .i64 b).wf = true) (x : ByteArray) (wx : x.size ≤ maxLen) (w : World) (hT : Nu.Tabs w) :
    Calls Tryd.prog 3 #[.int .i64 a, .int .i64 b, .string x] w fun e w' => e = .returned (.bool true) ∧ Below w.heap.size w w' := by
  obtain ⟨a0, a1⟩ := bounds_i64 wa
  obtain ⟨b0, b1⟩ := bounds_i64 wb
  have hsz := short_sz x
  have hR2 := fun W h => Read_c (mkS (shortL x.data.toList)) W (by omega) h
  have hR3 := fun W => ReadR_c (mkS (shortL x.data.toList)) W (by omega)
  rw [rd_eq] at hR3
  have hR1 := fun W h => Read_c (mkS (prC a b)) W (by rw [size_mkS]; have := prC_len a b a0 a1 b0 b1; omega) h
  rw [data_mkS] at hR1
  have hw := way_of a b a0 a1 b0 b1
  have hP := fun W h => Print_c a b W a0 a1 b0 b1 h
  have hPR := fun W => PrintR_c a b W a0 a1 b0 b1
  have hsh := fun W => short_c x W wx
  revert hR1 hw hP hPR hR2 hR3 hsh
  generalize rdC (prC a b) = q
  generalize mkS (prC a b) = t
  generalize rdC (mkS (shortL x.data.toList)).data.toList = r
  generalize mkS (shortL x.data.toList) = s
  intro hR2 hR3 hR1 hw hP hPR hsh
  have key : ∀ (A B e1 c d f : Int) (ok : Bool), rdV q = .returned (.tuple #[.agg #[.int .i64 A, .int .i64 B], .int .i64 e1]) →
      rdV r = .returned (.tuple #[.agg #[.int .i64 c, .int .i64 d], .int .i64 f]) → rdW r = .returned (.tuple #[.int .i64 c, .int .i64 d, .bool ok]) →
      ((e1 = 0 ∧ A = a ∧ B = b ∧ t.toList.isEmpty = false ∧ a < 2147483648 ∧ b < 2147483648) ∨ (e1 = 3 ∧ t.toList.isEmpty = true) ∨
      (e1 = 3 ∧ t.toList.isEmpty = false ∧ ¬ a < 2147483648) ∨ (e1 = 3 ∧ t.toList.isEmpty = false ∧ a < 2147483648 ∧ ¬ b < 2147483648)) →
      ((f = 0 ∧ ok = true) ∨ (f = 3 ∧ ok = false)) → Calls Tryd.prog 3 #[.int .i64 a, .int .i64 b, .string x] w fun e w' => e = .returned (.bool true) ∧ Below w.heap.size w w' :=
    fun A B e1 c d f ok h1 h2 h3 h4 h5 => cursor_p a b A B e1 c d f ok x s t w hT h4 h5 hsh hP hPR (fun W h => by have := hR1 W h; rw [h1] at this; exact this) (fun W h => by have := hR2 W h; rw [h2] at this; exact this) (fun W => by have := hR3 W; rw [h3] at this; exact this)
  have k2 : ∀ (A B e1 : Int), rdV q = .returned (.tuple #[.agg #[.int .i64 A, .int .i64 B], .int .i64 e1]) →
      ((e1 = 0 ∧ A = a ∧ B = b ∧ t.toList.isEmpty = false ∧ a < 2147483648 ∧ b < 2147483648) ∨ (e1 = 3 ∧ t.toList.isEmpty = true) ∨
      (e1 = 3 ∧ t.toList.isEmpty = false ∧ ¬ a < 2147483648) ∨ (e1 = 3 ∧ t.toList.isEmpty = false ∧ a < 2147483648 ∧ ¬ b < 2147483648)) → Calls Tryd.prog 3 #[.int .i64 a, .int .i64 b, .string x] w fun e w' => e = .returned (.bool true) ∧ Below w.heap.size w w' := by
    intro A B e1 h1 h4
    cases r with
    | none => exact key A B e1 0 0 3 false h1 rfl rfl h4 (.inr ⟨rfl, rfl⟩)
    | some p => exact key A B e1 p.1 p.2 0 true h1 rfl rfl h4 (.inl ⟨rfl, rfl⟩)
  rcases hw with ⟨rfl, h1, h2, h3⟩ | ⟨rfl, h1⟩ | ⟨rfl, h1, h2⟩ | ⟨rfl, h1, h2, h3⟩
  · exact k2 a b 0 rfl (.inl ⟨rfl, rfl, rfl, h1, h2, h3⟩)
  · exact k2 0 0 3 rfl (.inr (.inl ⟨rfl, h1⟩))
  · exact k2 0 0 3 rfl (.inr (.inr (.inl ⟨rfl, h1, by omega⟩)))
  · exact k2 0 0 3 rfl (.inr (.inr (.inr ⟨rfl, h1, h2, by omega⟩)))
end Go.Proofs.YtbafjilhopgjmaaDoor.Pg
