/- Contracts of package etag's Has and Of, and of the statements' short; Of where the library's tables lie as the program's text lays them. -/
import Derived.Test.YtojmjdgapfcjfaaDoorEtPrsR
import Derived.Test.YtojmjdgapfcjfaaDoorNuLaid
import Derived.Laws.StructEq
import Derived.Lib.ItoaLen
namespace Go.Proofs.YtojmjdgapfcjfaaDoor.Et
open Go.RowKit Ch
set_option linter.unusedSimpArgs false
set_option linter.unusedVariables false

theorem ret_str {a b : ByteArray} (h : a = b) : Ending.returned (.string a) = .returned (.string b) := by rw [h]
def shortL (l : List UInt8) : List UInt8 := l.take 80
theorem short_sz (a : ByteArray) : (mkS (shortL a.data.toList)).size ≤ 80 := by rw [size_mkS]; unfold shortL; rw [List.length_take]; omega
theorem short_c (s : ByteArray) (w : World) (hs : s.size ≤ maxLen) : Calls Tryd.prog 8 #[.string s] w fun e w' => e = .returned (.string (mkS (shortL s.data.toList))) ∧ w = w' := by
  unfold maxLen at hs
  by_cases h : 80 < s.size
  · have h' : (80 : Int) < (s.size : Int) := by omega
    go_enter Tryd.func8, Tryd.ntmps8
    go_wp2
    go_ret
    exact ⟨ret_str (mkS_of (by rw [Lib.extract_data]; simp [shortL])), rfl⟩
  · have h' : (s.size : Int) ≤ 80 := by omega
    have H := Lib.hid h
    go_enter Tryd.func8, Tryd.ntmps8
    go_wp2
    go_ret
    exact ⟨ret_str (mkS_of (by have := H.out; rw [Lib.size_eq] at this; unfold shortL; rw [List.take_of_length_le (by omega)])), rfl⟩
theorem stood : Tryd.prog.stoodInHeld 28 = false := by kernel_rfl
theorem tgC_len (ts : List TagL) : (tgC ts).length = ts.length * 2 := by
  induction ts with
  | nil => rfl
  | cons x ts ih => have e : tgC (x :: ts) = .bool x.1 :: .string (mkS x.2) :: tgC ts := rfl; rw [e, List.length_cons, List.length_cons, List.length_cons, ih]; omega
theorem tgC_at : ∀ (ts : List TagL) (k : Nat) (hk : k < ts.length), (tgC ts)[k * 2]? = some (.bool ts[k].1) ∧ (tgC ts)[k * 2 + 1]? = some (.string (mkS ts[k].2))
  | [], k, hk => by simp at hk
  | x :: ts, 0, _ => ⟨rfl, rfl⟩
  | x :: ts, k + 1, hk => by
    have ih := tgC_at ts k (by simpa using hk)
    have e : tgC (x :: ts) = .bool x.1 :: .string (mkS x.2) :: tgC ts := rfl
    rw [e, show (k + 1) * 2 = k * 2 + 2 by omega]
    exact ih
theorem owt_at {T : TypeId} {B : Nat} {v : Value} {ts : List TagL} {w : World} (h : OwT T B v ts w) (hn : 0 < ts.length) : ∃ g cap, v = .slice (some ⟨g, 0, none⟩) ts.length cap ∧ g < w.heap.size ∧ B ≤ g ∧ ts.length ≤ cap ∧ ∀ i (hi : i < ts.length), w.cell? ⟨g, i * 2, none⟩ = some (.bool ts[i].1) ∧ w.cell? ⟨g, i * 2 + 1, none⟩ = some (.string (mkS ts[i].2)) := by
  rcases h.2 with ⟨rfl, h0⟩ | ⟨g, cap, cur, rfl, hB, hg, hc, hcm, hsz, htk⟩
  · omega
  · refine ⟨g, cap, rfl, (Array.getElem?_eq_some_iff.1 hg).1, hB, hc, fun i hi => ?_⟩
    have hl := tgC_len ts
    rw [cell_of_row _ _ _ _ _ _ hg, cell_of_row _ _ _ _ _ _ hg]
    have hp := tgC_at ts i hi
    rw [← htk, List.getElem?_take_of_lt (by omega), List.getElem?_take_of_lt (by omega), Array.getElem?_toList, Array.getElem?_toList] at hp
    exact hp
/-- is a strong mark of this text among them? -/
def anyL (ts : List TagL) (x : List UInt8) : Bool := ts.any fun t => decide (t.1 = false) && decide (t.2 = x)
def hasL (an : Bool) (ts : List TagL) (tw : Bool) (x : List UInt8) : Bool := !tw && (an || anyL ts x)
theorem anyL_take {ts : List TagL} {x : List UInt8} {j : Nat} (hj : j < ts.length) (h : anyL (ts.take j) x = false) : anyL (ts.take (j + 1)) x = (decide (ts[j].1 = false) && decide (ts[j].2 = x)) := by
  unfold anyL at *
  rw [List.take_succ_eq_append_getElem hj, List.any_append, h]; simp
theorem anyL_yes {ts : List TagL} {x : List UInt8} {j : Nat} (hj : j < ts.length) (h1 : ts[j].1 = false) (h2 : ts[j].2 = x) : anyL ts x = true := by
  unfold anyL
  rw [List.any_eq_true]
  exact ⟨ts[j], List.getElem_mem hj, by simp [h1, h2]⟩
set_option maxRecDepth 100000 in
set_option maxHeartbeats 4000000 in
theorem Has_c (an : Bool) (v : Value) (ts : List TagL) (tw : Bool) (tx : ByteArray) (B : Nat) (w : World) (h : OwT 28 B v ts w) (hm : ts.length ≤ 1000) :
    Calls Tryd.prog 17 #[.agg #[.bool an, v], .agg #[.bool tw, .string tx]] w fun e w' => e = .returned (.bool (hasL an ts tw tx.data.toList)) ∧ Below w.heap.size w w' := by
  have HO := Lib.hid h
  obtain ⟨ao, cap, hv⟩ := own_len h
  subst hv
  clear h
  cases tw with
  | true =>
    show Calls _ _ _ _ fun e w' => e = .returned (.bool false) ∧ _
    go_enter Tryd.func17, Tryd.ntmps17
    go_wp2
    go_ret
    exact ⟨rfl, ((Below.refl _ _).alloc (Nat.le_refl _) _).alloc (by simp) _⟩
  | false =>
    cases an with
    | true =>
      show Calls _ _ _ _ fun e w' => e = .returned (.bool true) ∧ _
      go_enter Tryd.func17, Tryd.ntmps17
      go_wp2
      go_ret
      exact ⟨rfl, ((Below.refl _ _).alloc (Nat.le_refl _) _).alloc (by simp) _⟩
    | false =>
      show Calls _ _ _ _ fun e w' => e = .returned (.bool (anyL ts tx.data.toList)) ∧ _
      have hs := stood
      have HW0 : Hid (∃ W, W = (w.alloc (.cells #[.bool false, .slice ao ts.length cap] 39)).alloc (.cells #[.bool false, .string tx] 28) ∧ Below w.heap.size w W ∧ W.heap.size = w.heap.size + 2 ∧ W.cell? ⟨w.heap.size + 1, 0, none⟩ = some (.bool false) ∧ W.cell? ⟨w.heap.size + 1, 1, none⟩ = some (.string tx)) := by
        refine ⟨_, rfl, ((Below.refl _ _).alloc (Nat.le_refl _) _).alloc (by simp) _, by simp, ?_, ?_⟩
        · have := heap_alloc_new (w.alloc (.cells #[.bool false, .slice ao ts.length cap] 39)) (.cells #[.bool false, .string tx] 28)
          simp only [World.size_alloc] at this
          exact cell_of_row _ _ 0 _ _ _ this
        · have := heap_alloc_new (w.alloc (.cells #[.bool false, .slice ao ts.length cap] 39)) (.cells #[.bool false, .string tx] 28)
          simp only [World.size_alloc] at this
          exact cell_of_row _ _ 1 _ _ _ this
      go_enter Tryd.func17, Tryd.ntmps17
      go_wp2
      obtain ⟨W0, hW0, hb0, hz0, k0, k1⟩ := HW0.out
      have HB0 := Lib.hid hb0
      have HO0 := Lib.hid (HO.out.go hb0)
      rw [← hW0]
      clear hW0 hb0 HW0 HO
      go_loopw [14] (fun i wr => ∃ j : Nat, j ≤ ts.length ∧ i = .int .i64 j ∧ anyL (ts.take j) tx.data.toList = false ∧ Below W0.heap.size W0 wr) (fun i _ => ts.length - (intOf i).toNat)
      case atStart => exact ⟨0, by omega, rfl, rfl, Below.refl _ _⟩
      case round =>
        obtain ⟨j, hj, rfl, hal, hB⟩ := hrel
        have HB := Lib.hid hB
        have HA := Lib.hid hal
        by_cases hlt : j < ts.length
        · obtain ⟨g, c1, e1, hg1, _, hc1, hat⟩ := owt_at HO0.out (by omega)
          injection e1 with e1a e1b e1c
          subst e1a e1c
          have p0 : wr.cell? ⟨g, j * 2, none⟩ = some (.bool ts[j].1) := (hB.cell (p := ⟨g, j * 2, none⟩) hg1).trans (hat j hlt).1
          have p1 : wr.cell? ⟨g, j * 2 + 1, none⟩ = some (.string (mkS ts[j].2)) := (hB.cell (p := ⟨g, j * 2 + 1, none⟩) hg1).trans (hat j hlt).2
          have m0 : wr.cell? ⟨w.heap.size + 1, 0, none⟩ = some (.bool false) := (hB.cell (p := ⟨w.heap.size + 1, 0, none⟩) (by show w.heap.size + 1 < _; omega)).trans k0
          have m1 : wr.cell? ⟨w.heap.size + 1, 1, none⟩ = some (.string tx) := (hB.cell (p := ⟨w.heap.size + 1, 1, none⟩) (by show w.heap.size + 1 < _; omega)).trans k1
          have hsz := hB.size
          have hl1 : w.heap.size + 1 < wr.heap.size := by omega
          have hn1 : w.heap.size + 1 ≠ wr.heap.size := by omega
          have hj0 : (0 : Int) ≤ (j : Int) := by omega
          have hjl : (j : Int) < (ts.length : Int) := by omega
          have HT := Lib.hid (anyL_take hlt HA.out)
          have HY := Lib.hid (fun h1 h2 => anyL_yes (x := tx.data.toList) hlt h1 h2)
          have HQ : Hid (((mkS ts[j].2).toList == tx.toList) = decide (ts[j].2 = tx.data.toList)) := by
            show ((mkS ts[j].2).toList == tx.toList) = _
            rw [Lib.toList_data, Lib.toList_data, data_mkS]
            by_cases h : ts[j].2 = tx.data.toList <;> simp [h]
          clear hB hal hat k0 k1 hz0
          revert p0 p1 HT HY HQ
          generalize mkS ts[j].2 = y
          generalize ts[j].2 = yl
          generalize ts[j].1 = b
          intro p0 p1 HT HY HQ
          cases b with
          | true =>
            go_wp2
            go_roundw
            case rel => exact ⟨j + 1, by omega, by go_num, by rw [HT.out]; rfl, HB.out.alloc hsz _⟩
            case measure => simp [intOf]; omega
          | false =>
            by_cases hy : yl = tx.data.toList
            · have hq : (y.toList == tx.toList) = true := by rw [HQ.out, decide_eq_true hy]
              have HR := Lib.hid (HY.out rfl hy)
              clear hy
              go_wp2
              go_ret
              exact ⟨ret_b HR.out.symm, HB0.out.trans ((HB.out.alloc hsz _).mono HB0.out.size)⟩
            · have hq : (y.toList == tx.toList) = false := by rw [HQ.out, decide_eq_false hy]
              have HR : Hid (anyL (ts.take (j + 1)) tx.data.toList = false) := by
                show anyL (ts.take (j + 1)) tx.data.toList = false
                rw [HT.out, decide_eq_false hy]; rfl
              clear hy
              go_wp2
              go_roundw
              case rel => exact ⟨j + 1, by omega, by go_num, HR.out, HB.out.alloc hsz _⟩
              case measure => simp [intOf]; omega
        · have HR : Hid (anyL ts tx.data.toList = false) := by
            show anyL ts tx.data.toList = false
            have := HA.out
            rwa [List.take_of_length_le (by omega)] at this
          clear hB hal
          go_wp2
          go_ret
          exact ⟨ret_b HR.out.symm, HB0.out.trans (HB.out.mono HB0.out.size)⟩
theorem sum_v (n : Int) : ByteArray.mk #[118] ++ mkS (Lib.itoa n) = mkS (118 :: Lib.itoa n) := mkS_of (by rw [app_data, data_mkS]; rfl)
set_option maxRecDepth 100000 in
set_option maxHeartbeats 2000000 in
theorem Of_c (n : Int) (w : World) (h0 : -9223372036854775808 ≤ n) (h1 : n ≤ 9223372036854775807) (hT : Nu.Tabs w) :
    Calls Tryd.prog 18 #[.int .i64 n] w fun e w' => e = .returned (.agg #[.bool false, .string (mkS (118 :: Lib.itoa n))]) ∧ Below w.heap.size w w' := by
  have HT1 : Hid (Nu.Tabs (w.alloc (.cells #[.bool false, .string ⟨#[]⟩] 28))) := hT.go ((Below.refl _ _).alloc (Nat.le_refl _) _)
  have HP := Lib.hid (Nu.print_c n (w.alloc (.cells #[.bool false, .string ⟨#[]⟩] 28)) h0 h1 HT1.out)
  have hsz : ∀ o, (w.alloc o).heap.size = w.heap.size + 1 := fun o => by simp
  have hln : (Lib.itoa n).length ≤ 21 := Lib.itoa_length_le n h0 h1
  have HS := Lib.hid (sum_v n)
  clear hT HT1 h0 h1
  go_enter Tryd.func18, Tryd.ntmps18
  go_wp2_with fail
  refine HP.out.mono ?_
  rintro e w2 ⟨rfl, hb2⟩
  rw [hsz] at hb2
  have HK := Lib.hid (res_blk0 hb2)
  have HB := Lib.hid (res_bel0 hb2)
  clear hb2 HP
  have c0 := cell_of_row _ _ 0 _ _ _ HK.out
  have c1 := cell_of_row _ _ 1 _ _ _ HK.out
  have z0 := frz2 HK.out 0
  have z1 := frz2 HK.out 1
  have hms := size_mkS (Lib.itoa n)
  have hm2 : (mkS (Lib.itoa n)).size ≤ 100 := by omega
  clear hms
  revert HS hm2
  rw [show Nu.mkS (Lib.itoa n) = mkS (Lib.itoa n) from rfl]
  generalize mkS (Lib.itoa n) = sn
  intro HS hm2
  go_wp2
  have H2 := set2 HK.out (.bool false) (.string (ByteArray.mk #[118] ++ sn))
  have d0 := cell_of_row _ _ 0 _ _ _ H2
  have d1 := cell_of_row _ _ 1 _ _ _ H2
  clear c0 c1 z0 z1
  refine bodyPost_ret (v := .agg #[.bool false, .string (ByteArray.mk #[118] ++ sn)]) (by simp [results, Tryd.results18, go_sem, d0, d1]) rfl ⟨by rw [HS.out], ?_⟩
  exact (HB.out.setCell (p := ⟨w.heap.size, 0, none⟩) (Nat.le_refl _) _).setCell (p := ⟨w.heap.size, 1, none⟩) (Nat.le_refl _) _
end Go.Proofs.YtojmjdgapfcjfaaDoor.Et
