/- Contracts of package page's Print and Read and of the document's: for every cursor, every text of at most a thousand bytes, where the library's tables lie as the program's text lays them. -/
import Derived.Test.YtbafjilhopgjmaaDoorPgC
namespace Go.Proofs.YtbafjilhopgjmaaDoor.Pg
open Go.RowKit Ch
set_option linter.unusedSimpArgs false
set_option linter.unusedVariables false

set_option maxRecDepth 100000 in
set_option maxHeartbeats 2000000 in
theorem print_no (a b : Int) (w : World) (h : a < 1 ∨ b < 0) :
    Calls Tryd.prog 6 #[.agg #[.int .i64 a, .int .i64 b]] w fun e w' => e = .returned (.string (mkS [])) ∧ Below w.heap.size w w' := by
  have hb : Below w.heap.size w (w.alloc (.cells #[.int .i64 a, .int .i64 b] 25)) := (Below.refl _ _).alloc (Nat.le_refl _) _
  have HB := Lib.hid hb
  obtain ⟨k0, k1⟩ := new2 w (.int .i64 a) (.int .i64 b) 25
  clear hb
  by_cases ha : a < 1
  · clear h
    go_enter Tryd.func6, Tryd.ntmps6
    go_wp2
    go_ret
    exact ⟨rfl, HB.out⟩
  · have hb : b < 0 := by omega
    clear h
    go_enter Tryd.func6, Tryd.ntmps6
    go_wp2
    go_ret
    exact ⟨rfl, HB.out⟩
theorem Print_c (a b : Int) (w : World) (a0 : -9223372036854775808 ≤ a) (a1 : a ≤ 9223372036854775807) (b0 : -9223372036854775808 ≤ b) (b1 : b ≤ 9223372036854775807) (hT : Nu.Tabs w) :
    Calls Tryd.prog 6 #[.agg #[.int .i64 a, .int .i64 b]] w fun e w' => e = .returned (.string (mkS (prC a b))) ∧ Below w.heap.size w w' := by
  unfold prC
  by_cases h : a < 1 ∨ b < 0
  · rw [if_pos h]; exact print_no a b w h
  · rw [if_neg h]; exact print_ok a b w (by omega) a1 (by omega) b1 hT
theorem prR_str (a b : Int) : (⟨#[112]⟩ ++ mkS (Lib.itoa a) ++ ⟨#[46]⟩ ++ mkS (Lib.itoa b) : ByteArray) = mkS (txC a b) := pr_str a b
set_option maxRecDepth 100000 in
set_option maxHeartbeats 4000000 in
theorem PrintR_c (a b : Int) (w : World) (a0 : -9223372036854775808 ≤ a) (a1 : a ≤ 9223372036854775807) (b0 : -9223372036854775808 ≤ b) (b1 : b ≤ 9223372036854775807) :
    Calls Tryd.prog 8 #[.int .i64 a, .int .i64 b] w fun e w' => e = .returned (.string (mkS (prC a b))) ∧ Below w.heap.size w w' := by
  unfold prC
  by_cases ha : a < 1
  · rw [if_pos (.inl ha)]
    go_enter Tryd.func8, Tryd.ntmps8
    go_wp2
    go_ret
    exact ⟨rfl, Below.refl _ _⟩
  · by_cases hb : b < 0
    · rw [if_pos (.inr hb)]
      go_enter Tryd.func8, Tryd.ntmps8
      go_wp2
      go_ret
      exact ⟨rfl, Below.refl _ _⟩
    · rw [if_neg (by omega)]
      have HA : Hid (∀ W, Calls Tryd.prog 18 #[.int .i64 a] W fun e w' => e = .returned (.string (mkS (Lib.itoa a))) ∧ Below W.heap.size W w') := fun W => Nu.print_r a W (by omega) a1
      have HB : Hid (∀ W, Calls Tryd.prog 18 #[.int .i64 b] W fun e w' => e = .returned (.string (mkS (Lib.itoa b))) ∧ Below W.heap.size W w') := fun W => Nu.print_r b W (by omega) b1
      have HS := Lib.hid (pr_str a b)
      have HK : Hid (Below w.heap.size w w) := Below.refl _ _
      have hsa : (mkS (Lib.itoa a)).size ≤ 900 := by rw [size_mkS]; have := itoa_le a (by omega) a1; omega
      have hsb : (mkS (Lib.itoa b)).size ≤ 900 := by rw [size_mkS]; have := itoa_le b (by omega) b1; omega
      revert HA HB HS hsa hsb
      generalize mkS (Lib.itoa a) = sa
      generalize mkS (Lib.itoa b) = sb
      generalize mkS (txC a b) = st
      intro HA HB HS hsa hsb
      have q1 : ¬ 9223372036854775807 < 1 + sa.size := by omega
      have q2 : ¬ 9223372036854775807 < 1 + sa.size + 1 := by omega
      have q3 : ¬ 9223372036854775807 < 1 + sa.size + 1 + sb.size := by omega
      go_enter Tryd.func8, Tryd.ntmps8
      go_wp2_with fail
      refine (HA.out _).mono ?_
      rintro e w1 ⟨rfl, hb1⟩
      have HK1 := Lib.hid hb1
      clear hb1
      go_wp2_with fail
      refine (HB.out _).mono ?_
      rintro e w2 ⟨rfl, hb2⟩
      have HK2 : Hid (Below w.heap.size w w2) := HK1.out.trans (hb2.mono HK1.out.size)
      clear hb2
      go_wp2
      go_ret
      exact ⟨by rw [← HS.out]; rfl, HK2.out⟩
/-- what Read answers -/
def rdV (q : Option (Int × Int)) : Ending := match q with
  | some (a, b) => .returned (.tuple #[.agg #[.int .i64 a, .int .i64 b], .int .i64 0])
  | none => .returned (.tuple #[.agg #[.int .i64 0, .int .i64 0], .int .i64 3])
def rdW (q : Option (Int × Int)) : Ending := match q with
  | some (a, b) => .returned (.tuple #[.int .i64 a, .int .i64 b, .bool true])
  | none => .returned (.tuple #[.int .i64 0, .int .i64 0, .bool false])
theorem rdV_no {q : Option (Int × Int)} (h : q = none) : rdV q = .returned (.tuple #[.agg #[.int .i64 0, .int .i64 0], .int .i64 3]) := by subst h; rfl
theorem hasP (l : List UInt8) : Lib.hasPrefix l (ByteArray.mk #[112]).data.toList = Lib.hasPrefix l [112] := rfl
theorem pre_len (l : List UInt8) : (Lib.trimPrefix l [112]).length ≤ l.length := by unfold Lib.trimPrefix; split <;> simp
theorem rd_w2 {w w2 : World} {n : Nat} (h : w2 = (w.alloc (.cells #[.int .i64 0, .int .i64 0] 25)).drewN n) :
    w2.heap[w.heap.size]? = some (.cells #[.int .i64 0, .int .i64 0] 25 (0, 0)) ∧ Below w.heap.size w w2 ∧ w2.heap.size = w.heap.size + 1 := by
  subst h
  have hb := below_drewN ((Below.refl w.heap.size w).alloc (Nat.le_refl _) (.cells #[.int .i64 0, .int .i64 0] 25)) n
  refine ⟨?_, hb, by simp⟩
  have := heap_alloc_new w (.cells #[.int .i64 0, .int .i64 0] 25)
  simpa using this
theorem set2 {V : World} {q : Nat} {x0 y0 : Value} {T : TypeId} (hq : V.heap[q]? = some (.cells #[x0, y0] T (0, 0))) (x y : Value) :
    ∃ W, W = (V.setCell ⟨q, 0, none⟩ x).setCell ⟨q, 1, none⟩ y ∧ W.heap[q]? = some (.cells #[x, y] T (0, 0)) ∧ (∀ (B : Nat) (w : World), B ≤ q → Below B w V → Below B w W) := by
  refine ⟨_, rfl, ?_, fun B w hB h => (h.setCell (p := ⟨q, 0, none⟩) hB x).setCell (p := ⟨q, 1, none⟩) hB y⟩
  have h1 : (V.setCell ⟨q, 0, none⟩ x).heap[q]? = some (.cells #[x, y0] T (0, 0)) := by
    rw [setCell_eq_setRow V q 0 _ T _ x hq, setRow_heap V q _ _ T _ hq]; rfl
  rw [setCell_eq_setRow _ q 1 _ T _ y h1, setRow_heap _ q _ _ T _ h1]; rfl
theorem cell2 {w : World} {g : Nat} {a b : Value} {T : TypeId} (h : w.heap[g]? = some (.cells #[a, b] T (0, 0))) : w.cell? ⟨g, 0, none⟩ = some a ∧ w.cell? ⟨g, 1, none⟩ = some b := ⟨cell_of_row _ _ 0 _ _ _ h, cell_of_row _ _ 1 _ _ _ h⟩
theorem frz {w : World} {g : Nat} {cs : Array Value} {t : TypeId} (h : w.heap[g]? = some (.cells cs t (0, 0))) (i : Nat) : w.frozen? ⟨g, i, none⟩ = false := by simp [World.frozen?, h]
set_option maxRecDepth 100000 in
set_option maxHeartbeats 4000000 in
theorem read_p (s r x y : ByteArray) (bg fd : Bool) (a b e1 e2 : Int) (w : World) (q : Option (Int × Int))
    (HT : Hid (Nu.Tabs w))
    (HC : Hid (∀ W, Calls Tryd.prog 15 #[.string s, .string ⟨#[112]⟩] W fun e w' => e = .returned (.tuple #[.string r, .bool bg]) ∧ w' = W))
    (HD : Hid (∀ W, Calls Tryd.prog 16 #[.string r, .string ⟨#[46]⟩] W fun e w' => e = .returned (.tuple #[.string x, .string y, .bool fd]) ∧ ∃ n, w' = W.drewN n))
    (HA : Hid (∀ W, Calls Tryd.prog 17 #[.string x] W fun e w' => e = .returned (.tuple #[.int .i64 a, .int .i64 e1]) ∧ W = w'))
    (HB : Hid (∀ W, Calls Tryd.prog 17 #[.string y] W fun e w' => e = .returned (.tuple #[.int .i64 b, .int .i64 e2]) ∧ W = w'))
    (HP : Hid (∀ W, Nu.Tabs W → Calls Tryd.prog 6 #[.agg #[.int .i64 a, .int .i64 b]] W fun e w' => e = .returned (.string (mkS (prC a b))) ∧ Below W.heap.size W w'))
    (hq : Hid (q = if bg = true ∧ a ≤ 2147483647 ∧ b ≤ 2147483647 ∧ prC a b = s.data.toList then some (a, b) else none)) :
    Calls Tryd.prog 7 #[.string s] w fun e w' => e = rdV q ∧ Below w.heap.size w w' := by
  by_cases h : bg = true ∧ a ≤ 2147483647 ∧ b ≤ 2147483647
  · obtain ⟨rfl, ha, hb⟩ := h
    by_cases hs : prC a b = s.data.toList
    · have HR : Hid (rdV q = .returned (.tuple #[.agg #[.int .i64 a, .int .i64 b], .int .i64 0])) := by show _ = _; rw [hq.out, if_pos ⟨rfl, ha, hb, hs⟩]; rfl
      have hss : (mkS (prC a b)).toList = s.toList := by rw [Lib.toList_data, Lib.toList_data, data_mkS, hs]
      have hne : ((mkS (prC a b)).toList == s.toList) = true := by rw [hss]; simp
      clear hq hs hss
      revert HP hne
      generalize mkS (prC a b) = st
      intro HP hne
      go_enter Tryd.func7, Tryd.ntmps7
      go_wp2_with (go_at_call 15; (with_reducible refine (HC.out _).mono ?_); rintro e w' ⟨rfl, hw⟩; rw [hw]; clear hw)
      go_wp2_with (go_at_call 16; (with_reducible refine (HD.out _).mono ?_); rintro e w2 ⟨rfl, n, hw⟩; obtain ⟨hg2, hb2, hz2⟩ := rd_w2 hw; clear hw; obtain ⟨g0, g1⟩ := cell2 hg2; have f0 := frz hg2 0; have f1 := frz hg2 1; have HG2 := Lib.hid hg2; have HB2 := Lib.hid hb2; clear hg2 hb2)
      go_wp2_with (go_at_call 17; (with_reducible refine (HA.out _).mono ?_); rintro e w' ⟨rfl, hw⟩; rw [← hw]; clear hw)
      go_wp2_with (go_at_call 17; (with_reducible refine (HB.out _).mono ?_); rintro e w' ⟨rfl, hw⟩; rw [← hw]; clear hw)
      obtain ⟨W3, hW3, hk3, hb3⟩ : ∃ W3, W3 = w2.alloc (.cells #[.int .i64 a, .int .i64 b] 25) ∧ W3.heap[w2.heap.size]? = some (.cells #[.int .i64 a, .int .i64 b] 25 (0, 0)) ∧ Below w2.heap.size w2 W3 := ⟨_, rfl, heap_alloc_new w2 _, (Below.refl _ _).alloc (Nat.le_refl _) _⟩
      rw [← hW3]
      rw [hz2] at hk3
      have HB3 : Hid (Below w.heap.size w W3) := HB2.out.trans (hb3.mono HB2.out.size)
      have HG3 : Hid (W3.heap[w.heap.size]? = some (.cells #[.int .i64 0, .int .i64 0] 25 (0, 0))) := (hb3.block _ (by omega)).trans HG2.out
      have HK3 := Lib.hid hk3
      have hz3 : W3.heap.size = w.heap.size + 2 := by rw [hW3, World.size_alloc, hz2]
      clear hW3 hk3 hb3 g0 g1 f0 f1
      (with_reducible refine (HP.out _ (HT.out.go HB3.out)).mono ?_)
      rintro e w4 ⟨rfl, hb4⟩
      have HB4 : Hid (Below w.heap.size w w4) := HB3.out.trans (hb4.mono HB3.out.size)
      have hg4 := (hb4.block w.heap.size (by omega)).trans HG3.out
      have hk4 := (hb4.block (w.heap.size + 1) (by omega)).trans HK3.out
      obtain ⟨g0, g1⟩ := cell2 hg4
      obtain ⟨k0, k1⟩ := cell2 hk4
      have f0 := frz hg4 0
      have f1 := frz hg4 1
      have HG4 := Lib.hid hg4
      have hz4 : w.heap.size < w4.heap.size := by have := hb4.size; omega
      clear hb4 hg4 hk4 hz2 hz3
      go_wp2
      obtain ⟨W5, hW5, hg5, hb5⟩ := set2 HG4.out (.int .i64 a) (.int .i64 b)
      rw [← hW5]
      obtain ⟨g0, g1⟩ := cell2 hg5
      have HB5 := Lib.hid (hb5 w.heap.size w (Nat.le_refl _) HB4.out)
      clear hW5 hg5 hb5 k0 k1
      (with_reducible refine bodyPost_ret (v := .tuple #[.agg #[.int .i64 a, .int .i64 b], .int .i64 0]) (by simp [results, Tryd.results7, go_sem, g0, g1]) rfl ⟨HR.out.symm, HB5.out⟩)
    · have HR : Hid (rdV q = .returned (.tuple #[.agg #[.int .i64 0, .int .i64 0], .int .i64 3])) := by show _ = _; rw [hq.out, if_neg (fun h => hs h.2.2.2)]; rfl
      have hne : ((mkS (prC a b)).toList == s.toList) = false := by rw [Lib.toList_data, Lib.toList_data, data_mkS]; simpa using hs
      clear hq hs
      revert HP hne
      generalize mkS (prC a b) = st
      intro HP hne
      go_enter Tryd.func7, Tryd.ntmps7
      go_wp2_with (go_at_call 15; (with_reducible refine (HC.out _).mono ?_); rintro e w' ⟨rfl, hw⟩; rw [hw]; clear hw)
      go_wp2_with (go_at_call 16; (with_reducible refine (HD.out _).mono ?_); rintro e w2 ⟨rfl, n, hw⟩; obtain ⟨hg2, hb2, hz2⟩ := rd_w2 hw; clear hw; obtain ⟨g0, g1⟩ := cell2 hg2; have f0 := frz hg2 0; have f1 := frz hg2 1; have HG2 := Lib.hid hg2; have HB2 := Lib.hid hb2; clear hg2 hb2)
      go_wp2_with (go_at_call 17; (with_reducible refine (HA.out _).mono ?_); rintro e w' ⟨rfl, hw⟩; rw [← hw]; clear hw)
      go_wp2_with (go_at_call 17; (with_reducible refine (HB.out _).mono ?_); rintro e w' ⟨rfl, hw⟩; rw [← hw]; clear hw)
      obtain ⟨W3, hW3, hk3, hb3⟩ : ∃ W3, W3 = w2.alloc (.cells #[.int .i64 a, .int .i64 b] 25) ∧ W3.heap[w2.heap.size]? = some (.cells #[.int .i64 a, .int .i64 b] 25 (0, 0)) ∧ Below w2.heap.size w2 W3 := ⟨_, rfl, heap_alloc_new w2 _, (Below.refl _ _).alloc (Nat.le_refl _) _⟩
      rw [← hW3]
      rw [hz2] at hk3
      have HB3 : Hid (Below w.heap.size w W3) := HB2.out.trans (hb3.mono HB2.out.size)
      have HG3 : Hid (W3.heap[w.heap.size]? = some (.cells #[.int .i64 0, .int .i64 0] 25 (0, 0))) := (hb3.block _ (by omega)).trans HG2.out
      have HK3 := Lib.hid hk3
      have hz3 : W3.heap.size = w.heap.size + 2 := by rw [hW3, World.size_alloc, hz2]
      clear hW3 hk3 hb3 g0 g1 f0 f1
      (with_reducible refine (HP.out _ (HT.out.go HB3.out)).mono ?_)
      rintro e w4 ⟨rfl, hb4⟩
      have HB4 : Hid (Below w.heap.size w w4) := HB3.out.trans (hb4.mono HB3.out.size)
      have hg4 := (hb4.block w.heap.size (by omega)).trans HG3.out
      have hk4 := (hb4.block (w.heap.size + 1) (by omega)).trans HK3.out
      obtain ⟨g0, g1⟩ := cell2 hg4
      obtain ⟨k0, k1⟩ := cell2 hk4
      have f0 := frz hg4 0
      have f1 := frz hg4 1
      have HG4 := Lib.hid hg4
      have hz4 : w.heap.size < w4.heap.size := by have := hb4.size; omega
      clear hb4 hg4 hk4 hz2 hz3
      go_wp2
      obtain ⟨W5, hW5, hg5, hb5⟩ := set2 HG4.out (.int .i64 0) (.int .i64 0)
      rw [← hW5]
      obtain ⟨g0, g1⟩ := cell2 hg5
      have HB5 := Lib.hid (hb5 w.heap.size w (Nat.le_refl _) HB4.out)
      clear hW5 hg5 hb5 k0 k1
      (with_reducible refine bodyPost_ret (v := .tuple #[.agg #[.int .i64 0, .int .i64 0], .int .i64 3]) (by simp [results, Tryd.results7, go_sem, g0, g1]) rfl ⟨HR.out.symm, HB5.out⟩)
  · have HR : Hid (rdV q = .returned (.tuple #[.agg #[.int .i64 0, .int .i64 0], .int .i64 3])) := by show _ = _; rw [hq.out, if_neg (fun hh => h ⟨hh.1, hh.2.1, hh.2.2.1⟩)]; rfl
    have hbd : bg = false ∨ (bg = true ∧ 2147483647 < a) ∨ (bg = true ∧ a ≤ 2147483647 ∧ 2147483647 < b) := by
      cases bg with
      | false => exact .inl rfl
      | true =>
        have h2 : ¬ (a ≤ 2147483647 ∧ b ≤ 2147483647) := fun hh => h ⟨rfl, hh.1, hh.2⟩
        by_cases ha : a ≤ 2147483647
        · exact .inr (.inr ⟨rfl, ha, by omega⟩)
        · exact .inr (.inl ⟨rfl, by omega⟩)
    clear hq h HP
    rcases hbd with rfl | ⟨rfl, ha⟩ | ⟨rfl, ha, hb⟩
    all_goals go_enter Tryd.func7, Tryd.ntmps7
    all_goals go_wp2_with (go_at_call 15; (with_reducible refine (HC.out _).mono ?_); rintro e w' ⟨rfl, hw⟩; rw [hw]; clear hw)
    all_goals go_wp2_with (go_at_call 16; (with_reducible refine (HD.out _).mono ?_); rintro e w2 ⟨rfl, n, hw⟩; obtain ⟨hg2, hb2, hz2⟩ := rd_w2 hw; clear hw; obtain ⟨g0, g1⟩ := cell2 hg2; have f0 := frz hg2 0; have f1 := frz hg2 1; have HG2 := Lib.hid hg2; have HB2 := Lib.hid hb2; clear hg2 hb2)
    all_goals go_wp2_with (go_at_call 17; (with_reducible refine (HA.out _).mono ?_); rintro e w' ⟨rfl, hw⟩; rw [← hw]; clear hw)
    all_goals go_wp2_with (go_at_call 17; (with_reducible refine (HB.out _).mono ?_); rintro e w' ⟨rfl, hw⟩; rw [← hw]; clear hw)
    all_goals obtain ⟨W5, hW5, hg5, hb5⟩ := set2 HG2.out (.int .i64 0) (.int .i64 0)
    all_goals rw [← hW5]
    all_goals obtain ⟨g0, g1⟩ := cell2 hg5
    all_goals have HB5 := Lib.hid (hb5 w.heap.size w (Nat.le_refl _) HB2.out)
    all_goals clear hW5 hg5 hb5
    all_goals (with_reducible refine bodyPost_ret (v := .tuple #[.agg #[.int .i64 0, .int .i64 0], .int .i64 3]) (by simp [results, Tryd.results7, go_sem, g0, g1]) rfl ⟨HR.out.symm, HB5.out⟩)
theorem Read_c (s : ByteArray) (w : World) (hs : s.size ≤ 900) (hT : Nu.Tabs w) : Calls Tryd.prog 7 #[.string s] w fun e w' => e = rdV (rdC s.data.toList) ∧ Below w.heap.size w w' := by
  have hl := pre_len s.data.toList
  rw [← Lib.size_eq s] at hl
  have hc := cutP_len 46 (Lib.trimPrefix s.data.toList [112])
  have ba := Nu.pN_bd (cutP 46 (Lib.trimPrefix s.data.toList [112])).1
  have bb := Nu.pN_bd (cutP 46 (Lib.trimPrefix s.data.toList [112])).2
  exact read_p s (mkS (Lib.trimPrefix s.data.toList [112])) (mkS (cutP 46 (Lib.trimPrefix s.data.toList [112])).1) (mkS (cutP 46 (Lib.trimPrefix s.data.toList [112])).2) (Lib.hasPrefix s.data.toList [112]) (decide (46 ∈ Lib.trimPrefix s.data.toList [112])) (Nu.pN (cutP 46 (Lib.trimPrefix s.data.toList [112])).1) (Nu.pN (cutP 46 (Lib.trimPrefix s.data.toList [112])).2) (Nu.pE (cutP 46 (Lib.trimPrefix s.data.toList [112])).1) (Nu.pE (cutP 46 (Lib.trimPrefix s.data.toList [112])).2) w _ hT
    (fun W => pre_c s ⟨#[112]⟩ W)
    (fun W => scut_c (mkS (Lib.trimPrefix s.data.toList [112])) 46 W (by rw [size_mkS]; omega))
    (fun W => Nu.parse_c (mkS (cutP 46 (Lib.trimPrefix s.data.toList [112])).1) W (by rw [size_mkS]; omega))
    (fun W => Nu.parse_c (mkS (cutP 46 (Lib.trimPrefix s.data.toList [112])).2) W (by rw [size_mkS]; omega))
    (fun W h => Print_c _ _ W ba.1 ba.2 bb.1 bb.2 h) rfl
end Go.Proofs.YtbafjilhopgjmaaDoor.Pg
