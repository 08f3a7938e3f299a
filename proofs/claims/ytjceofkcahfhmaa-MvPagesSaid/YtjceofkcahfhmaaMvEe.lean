/- The law's ours and Same; no other condition. -/
import Derived.Test.YtjceofkcahfhmaaMvEk
import Derived.Laws.StructEq
namespace Go.Proofs.Ytjceofkcahfhmaa.Mv
open Go.RowKit Go.Lib Go.Maps Go.Shelf Go.Sort
open Go.Proofs.Ytjceofkcahfhmaa.Cn
set_option linter.unusedSimpArgs false
set_option linter.unusedVariables false

def encC (x : ChT) : List Value := [.string x.1, .string x.2.1, .bool x.2.2]
def cC (l : List ChT) : List Value := l.flatMap encC
theorem encC_ok (x : ChT) : ∀ u ∈ encC x, u.oneCell' = true := by intro u hu; simp [encC] at hu; rcases hu with rfl | rfl | rfl <;> rfl
theorem cC_snoc (l : List ChT) (x : ChT) : cC (l ++ [x]) = cC l ++ encC x := by unfold cC; simp
/-- changes of one's own -/
def OwC (T : TypeId) (B : Nat) (v : Value) (l : List ChT) (w : World) : Prop := w.ownsRow B T 3 v l.length (cC l)
theorem cC_at : ∀ (l : List ChT) (k : Nat) (hk : k < l.length), (cC l)[k * 3]? = some (.string l[k].1) ∧ (cC l)[k * 3 + 1]? = some (.string l[k].2.1) ∧ (cC l)[k * 3 + 2]? = some (.bool l[k].2.2)
  | x :: l, 0, _ => ⟨rfl, rfl, rfl⟩
  | x :: l, k + 1, hk => by
    have h := cC_at l k (by simpa using hk)
    have e : cC (x :: l) = encC x ++ cC l := rfl
    rw [e]
    refine ⟨?_, ?_, ?_⟩
    · rw [show (k + 1) * 3 = k * 3 + 3 by omega]; exact h.1
    · rw [show (k + 1) * 3 + 1 = (k * 3 + 1) + 3 by omega]; exact h.2.1
    · rw [show (k + 1) * 3 + 2 = (k * 3 + 2) + 3 by omega]; exact h.2.2
theorem OwC.rd {T : TypeId} {B : Nat} {v : Value} {l : List ChT} {w : World} (h : OwC T B v l w) : ∃ ao cap, v = .slice ao l.length cap ∧ l.length ≤ cap ∧ RdC (.slice ao l.length cap) l w ∧ ∀ g, ao = some ⟨g, 0, none⟩ → B ≤ g := by
  rcases h.2 with ⟨e, h0⟩ | ⟨g, cap, cur, hv, hB, hgh, hn, hm, hz, htk⟩
  · have : l = [] := List.eq_nil_of_length_eq_zero h0
    subst this
    exact ⟨none, 0, e, Nat.le_refl _, ⟨none, 0, rfl, fun h => absurd h (Nat.lt_irrefl _)⟩, fun g e => by cases e⟩
  · have hg := (Array.getElem?_eq_some_iff.1 hgh).1
    refine ⟨_, cap, hv, hn, ⟨_, cap, rfl, fun _ => ⟨g, rfl, hg, fun i hi => ?_⟩⟩, fun g' e => by injection e with e; injection e with e; omega⟩
    have hat := cC_at l i hi
    have hcl : (cC l).length = l.length * 3 := h.1
    have hcur : ∀ j, j < l.length * 3 → cur[j]? = (cC l)[j]? := fun j hj => by
      rw [← htk, List.getElem?_take_of_lt hj, Array.getElem?_toList]
    refine ⟨?_, ?_, ?_⟩
    · rw [cell_of_row _ _ _ _ _ _ hgh, hcur _ (by omega)]; exact hat.1
    · rw [cell_of_row _ _ _ _ _ _ hgh, hcur _ (by omega)]; exact hat.2.1
    · rw [cell_of_row _ _ _ _ _ _ hgh, hcur _ (by omega)]; exact hat.2.2
theorem infoCm : (Try.prog.info? 80).map (fun i => (i.zero, i.size, i.bytes)) = some (some (.agg #[.string ⟨#[]⟩, .string ⟨#[]⟩, .bool false]), 3, 40) := by kernel_rfl
theorem infoCr : (Try.prog.info? 81).map (fun i => (i.zero, i.size, i.bytes)) = some (some (.agg #[.string ⟨#[]⟩, .string ⟨#[]⟩, .bool false]), 3, 40) := by kernel_rfl
theorem tk_snoc {l : List ChT} {j : Nat} (hj : j < l.length) (h6 : j < 6) : (l.take 6).take (j + 1) = (l.take 6).take j ++ [l[j]] := by
  have h : j < (l.take 6).length := by rw [List.length_take]; omega
  rw [List.take_succ_eq_append_getElem h]; simp
theorem tk_full {l : List ChT} {j : Nat} (h6 : ¬ j < 6) : (l.take 6).take (j + 1) = (l.take 6).take j := by
  have h : (l.take 6).length ≤ 6 := by rw [List.length_take]; omega
  have e1 : (l.take 6).take (j + 1) = l.take 6 := List.take_of_length_le (by omega)
  have e2 : (l.take 6).take j = l.take 6 := List.take_of_length_le (by omega)
  rw [e1, e2]
theorem tk_len {l : List ChT} {j : Nat} : ((l.take 6).take j).length ≤ 6 := by rw [List.length_take, List.length_take]; omega
set_option maxRecDepth 100000 in
set_option maxHeartbeats 4000000 in
theorem ours_c (ao : Option Addr) (cap : Nat) (l : List ChT) (w : World) (h : RdX (.slice ao l.length cap) l w) (hm : l.length ≤ maxLen) :
    Calls Try.prog 18 #[.slice ao l.length cap] w fun e w' => ∃ v1 v2, e = .returned (.tuple #[v1, v2]) ∧ OwC 80 w.heap.size v1 (l.take 6) w' ∧ OwC 81 w.heap.size v2 (l.take 6) w' ∧ Below w.heap.size w w' := by
  have HL := Lib.hid h
  obtain ⟨i0, hi, hz0, hz1, hz2⟩ := info_parts infoCm
  obtain ⟨k0, ki, kz0, kz1, kz2⟩ := info_parts infoCr
  obtain ⟨m, hmm⟩ : ∃ m, m = l.length := ⟨_, rfl⟩
  have HN : Hid (l.length = m) := hmm.symm
  rw [← hmm] at HL hm ⊢
  simp only [maxLen] at hm
  clear h hmm
  go_enter Try.func18, Try.ntmps18
  go_wp2
  go_loopw [10, 4, 5] (fun iv av bv wr => ∃ (j : Nat) (xs : List ChT), j ≤ m ∧ iv = .int .i64 (j : Int) ∧ xs.length ≤ 6 ∧ Hid (xs = (l.take 6).take j) ∧ Hid (wr.ownsRow w.heap.size 80 3 av xs.length (cC xs)) ∧ Hid (wr.ownsRow w.heap.size 81 3 bv xs.length (cC xs)) ∧ Hid (Below w.heap.size w wr)) (fun iv _ _ _ => m - (intOf iv).toNat)
  case atStart => exact ⟨0, [], by omega, rfl, by decide, Lib.hid rfl, Lib.hid (World.ownsRow_nil _ _ _ _), Lib.hid (World.ownsRow_nil _ _ _ _), Lib.hid (Below.refl _ _)⟩
  case round =>
    obtain ⟨j, xs, hj, rfl, hxl, HXS, HO1, HO2, HB⟩ := hrel
    obtain ⟨a1, p1, e1⟩ := own_form HO1.out
    obtain ⟨a2, p2, e2⟩ := own_form HO2.out
    subst e1 e2
    by_cases hlt : j < m
    · have hjL : j < l.length := by rw [HN.out]; exact hlt
      obtain ⟨g, off, rfl, hg, hat⟩ := rdx_at (HL.out.go HB.out) (by omega)
      obtain ⟨q0, q1, q2⟩ := hat j hjL
      have hj0 : (0 : Int) ≤ (j : Int) := by omega
      have hjl : (j : Int) < (m : Int) := by omega
      have HT : Hid (j < 6 → (l.take 6).take (j + 1) = (l.take 6).take j ++ [l[j]]) := fun h6 => tk_snoc hjL h6
      obtain ⟨⟨x0, x1, x2⟩, hx⟩ : ∃ x : ChT, l[j] = x := ⟨_, rfl⟩
      rw [hx] at q0 q1 q2 HT
      dsimp only at q0 q1 q2
      obtain ⟨W1, hW1, hk1, hb1⟩ := Cn.new3 wr (.string x0) (.string x1) (.bool x2) 81
      have HW1 := Lib.hid hW1
      have HK1 := Lib.hid hk1
      have HB1 := Lib.hid hb1
      have HBW : Hid (Below w.heap.size w W1) := HB.out.trans (hb1.mono HB.out.size)
      have hwl : wr.heap.size < W1.heap.size := (Array.getElem?_eq_some_iff.1 hk1).1
      obtain ⟨d0, d1, d2⟩ := Cn.cells3 hk1
      clear hat hx hjL hW1 hk1 hb1
      by_cases h6 : j < 6
      · have h6i : (j : Int) < 6 := by omega
        have HTK : Hid (xs ++ [(x0, x1, x2)] = (l.take 6).take (j + 1)) := by show _ = _; rw [HT.out h6, HXS.out]
        have HXL : Hid ((xs ++ [(x0, x1, x2)]).length ≤ 6) := by show _ ≤ _; rw [HTK.out]; exact tk_len
        obtain ⟨WB, hWB, hkB, hbB⟩ := Cn.new3 W1 (.string x0) (.string x1) (.bool x2) 80
        have HWB := Lib.hid hWB
        have HC : Hid (∀ i u, (encC (x0, x1, x2))[i]? = some u → WB.cell? ((⟨W1.heap.size, 0, none⟩ : Addr).add i) = some u) := World.news_of_block (cs := #[.string x0, .string x1, .bool x2]) hkB
        have HOB := Lib.hid (own_go (own_go HO1.out HB1.out) hbB)
        have HOB2 := Lib.hid (own_go (own_go HO2.out HB1.out) hbB)
        have HBB : Hid (Below w.heap.size w WB) := HBW.out.trans (hbB.mono HBW.out.size)
        have HKB : Hid (WB.heap[wr.heap.size]? = some (.cells #[.string x0, .string x1, .bool x2] 81 (0, 0))) := (hbB.block _ hwl).trans HK1.out
        have D3 : Hid (xs.length + 1 ≤ maxLen) := by show _ ≤ _; unfold maxLen; omega
        have D4 : Hid ((xs.length + 1) * 40 ≤ 140737488355328) := by show _ ≤ _; omega
        have D5 : Hid (w.heap.size ≤ WB.heap.size) := HBB.out.size
        have DE := Lib.hid (encC_ok (x0, x1, x2))
        clear hWB hkB hbB
        go_upto_region 6 with (fail)
        rw [← HW1.out]
        go_upto_region 7 with (fail)
        go_wp2_with (at_builtin; rw [← HWB.out]; refine wpList_append_own _ rfl _ _ 55 rfl w.heap.size 80 i0 _ 3 40 Try.underlying55 hi hz0 hz1 hz2 rfl (by decide) _ _ _ rfl HOB.out ⟨W1.heap.size, 0, none⟩ 1 1 (encC (x0, x1, x2)) rfl rfl HC.out DE.out D3.out D4.out D5.out ?_)
        intro v5 V5 hown hgrow _
        have hBV : Below w.heap.size w V5 := HBB.out.grown hgrow HBB.out.size (fun q hq => (HOB.out.lt q hq).1)
        have hKV : V5.heap[wr.heap.size]? = some (.cells #[.string x0, .string x1, .bool x2] 81 (0, 0)) := ((fr_gr hgrow).block _ (Array.getElem?_eq_some_iff.1 HKB.out).1 (fun e => by have := (HO1.out.lt _ e).2; omega)).trans HKB.out
        have hO2 := row_gr HOB2.out hgrow (fun g e1 e2 => rows_apart HOB.out HOB2.out (by decide) e2 e1)
        obtain ⟨f0, f1, f2⟩ := Cn.cells3 hKV
        obtain ⟨WD, hWD, hkD, hbD⟩ := Cn.new3 V5 (.string x0) (.string x1) (.bool x2) 81
        have HWD := Lib.hid hWD
        have HCD : Hid (∀ i u, (encC (x0, x1, x2))[i]? = some u → WD.cell? ((⟨V5.heap.size, 0, none⟩ : Addr).add i) = some u) := World.news_of_block (cs := #[.string x0, .string x1, .bool x2]) hkD
        have HOD2 := Lib.hid (own_go hO2 hbD)
        have HOD1 := Lib.hid (own_go hown hbD)
        have HBD : Hid (Below w.heap.size w WD) := hBV.trans (hbD.mono hBV.size)
        have D6 : Hid (w.heap.size ≤ WD.heap.size) := HBD.out.size
        obtain ⟨ap, cq, hv5⟩ := own_form hown
        subst hv5
        clear hown hgrow hBV hKV hO2 hWD hkD hbD d0 d1 d2
        go_wp2_with (at_builtin; rw [← HWD.out]; refine wpList_append_own _ rfl _ _ 29 rfl w.heap.size 81 k0 _ 3 40 Try.underlying29 ki kz0 kz1 kz2 rfl (by decide) _ _ _ rfl HOD2.out ⟨V5.heap.size, 0, none⟩ 1 1 (encC (x0, x1, x2)) rfl rfl HCD.out DE.out D3.out D4.out D6.out ?_)
        intro v6 V6 hown hgrow _
        have HBV : Hid (Below w.heap.size w V6) := HBD.out.grown hgrow HBD.out.size (fun q hq => (HOD2.out.lt q hq).1)
        have hO1 := row_gr HOD1.out hgrow (fun g e1 e2 => rows_apart HOD1.out HOD2.out (by decide) e1 e2)
        have HR1 : Hid (V6.ownsRow w.heap.size 80 3 (.slice ap (xs.length + 1) cq) (xs ++ [(x0, x1, x2)]).length (cC (xs ++ [(x0, x1, x2)]))) := by
          show World.ownsRow _ _ _ _ _ _ _
          rw [cC_snoc, List.length_append]
          exact hO1
        obtain ⟨ap2, cq2, hv6⟩ := own_form hown
        have HR2 : Hid (V6.ownsRow w.heap.size 81 3 v6 (xs ++ [(x0, x1, x2)]).length (cC (xs ++ [(x0, x1, x2)]))) := by
          show World.ownsRow _ _ _ _ _ _ _
          rw [cC_snoc, List.length_append]
          exact hown
        subst hv6
        clear hown hgrow hO1
        go_wp2
        go_roundw
        case rel => exact ⟨j + 1, _, by omega, by go_num, HXL.out, HTK, HR1, HR2, HBV⟩
        case measure => simp [intOf]; omega
      · have h6i : ¬ (j : Int) < 6 := by omega
        have HTK : Hid (xs = (l.take 6).take (j + 1)) := by show _ = _; rw [tk_full h6, HXS.out]
        have HR1 := Lib.hid (own_go HO1.out HB1.out)
        have HR2 := Lib.hid (own_go HO2.out HB1.out)
        go_upto_region 6 with (fail)
        rw [← HW1.out]
        go_wp2
        go_roundw
        case rel => exact ⟨j + 1, xs, by omega, by go_num, hxl, HTK, HR1, HR2, HBW⟩
        case measure => simp [intOf]; omega
    · have hjl : ¬ (j : Int) < (m : Int) := by omega
      have hfl : (l.take 6).take j = l.take 6 := List.take_of_length_le (by rw [List.length_take, HN.out]; omega)
      have HFL : Hid (xs = l.take 6) := HXS.out.trans hfl
      clear hfl
      go_wp2
      refine bodyPost_ret (v := .tuple #[.slice a1 xs.length p1, .slice a2 xs.length p2]) (by simp [results, Try.results18, go_sem]) rfl ?_
      refine ⟨_, _, rfl, ?_, ?_, HB.out⟩
      · rw [← HFL.out]; exact HO1.out
      · rw [← HFL.out]; exact HO2.out
theorem eqIs (o : BinOp) (x : ItT) (W : World) (ho : o = .eql ∨ o = .neq) : (binOp o 49 (aggI x) (aggI x)).run Try.prog W = .ok (.bool (decide (o = .eql))) W := by
  have u9 := Try.underlying9
  have hS : Try.prog.underlying 49 = some (.struct (Try.prog.fieldsOf 49)) := by kernel_rfl
  have hp : Try.prog.stoodInHeld 49 = false := by kernel_rfl
  have h : (Op.equalIn 10000 49 (aggI x) (aggI x)).run Try.prog W = .ok true W := by
    unfold aggI
    rw [show (10000 : Nat) = 9999 + 1 from rfl, run_equalIn_agg W 9999 49 _ _ hS hp]
    simp only [Program.fieldsOf, Try.underlying49]
    go_simp
  unfold aggI at h ⊢
  rcases ho with rfl | rfl
  · rw [run_eql_struct, h]; rfl
  · rw [run_neq_struct, h]; rfl
/-- items that can be read -/
abbrev RdN (v : Value) (l : List ItT) (w : World) : Prop := RdI (fun _ => True) v l w
theorem OwI.rd {B : Nat} {v : Value} {l : List ItT} {w : World} (h : OwI B v l w) : RdN v l w := by
  rcases h.2 with ⟨e, h0⟩ | ⟨g, cap, cur, hv, hB, hgh, hn, hm, hz, htk⟩
  · have : l = [] := List.eq_nil_of_length_eq_zero h0
    subst this
    rw [e]; exact RdI.nil _ w
  · have hg := (Array.getElem?_eq_some_iff.1 hgh).1
    refine ⟨_, cap, hv, hn, fun _ => ⟨g, rfl, trivial, hg, fun i hi => ?_⟩⟩
    have hat := iC_at l i hi
    have hcl : (iC l).length = l.length * 3 := h.1
    have hcur : ∀ j, j < l.length * 3 → cur[j]? = (iC l)[j]? := fun j hj => by
      rw [← htk, List.getElem?_take_of_lt hj, Array.getElem?_toList]
    refine ⟨?_, ?_, ?_⟩
    · rw [cell_of_row _ _ _ _ _ _ hgh, hcur _ (by omega)]; exact hat.1
    · rw [cell_of_row _ _ _ _ _ _ hgh, hcur _ (by omega)]; exact hat.2.1
    · rw [cell_of_row _ _ _ _ _ _ hgh, hcur _ (by omega)]; exact hat.2.2
set_option maxRecDepth 100000 in
set_option maxHeartbeats 4000000 in
/-- the law's Same, of items that are the same -/
theorem Same_c {v1 v2 : Value} {l : List ItT} {w : World} (hA : RdN v1 l w) (hB : RdN v2 l w) (hm : l.length ≤ 1000000) :
    Calls Try.prog 16 #[v1, v2] w fun e w' => e = .returned (.bool true) ∧ Below w.heap.size w w' := by
  have HA := Lib.hid hA
  have HB := Lib.hid hB
  obtain ⟨a1, c1, rfl, _⟩ := hA
  obtain ⟨a2, c2, rfl, _⟩ := hB
  obtain ⟨n, hn⟩ : ∃ n, n = l.length := ⟨_, rfl⟩
  have HN : Hid (l.length = n) := hn.symm
  rw [← hn] at HA HB hm ⊢
  clear hn
  go_enter Try.func16, Try.ntmps16
  go_wp2
  go_loopw [14] (fun v wr => ∃ j : Nat, j ≤ n ∧ v = .int .i64 j ∧ Hid (Below w.heap.size w wr)) (fun v _ => n - (intOf v).toNat)
  case atStart => exact ⟨0, by omega, rfl, Lib.hid (Below.refl _ _)⟩
  case round =>
    obtain ⟨j, hj, rfl, HBW⟩ := hrel
    by_cases hlt : j < n
    · have hjL : j < l.length := by rw [HN.out]; exact hlt
      obtain ⟨g1, rfl, _, hg1, hat1⟩ := rdi_at (HA.out.go HBW.out) (by omega)
      obtain ⟨g2, rfl, _, hg2, hat2⟩ := rdi_at (HB.out.go HBW.out) (by omega)
      obtain ⟨p0, p1, p2⟩ := hat1 j hjL
      obtain ⟨q0, q1, q2⟩ := hat2 j hjL
      have hj0 : (0 : Int) ≤ (j : Int) := by omega
      have hjl : (j : Int) < (n : Int) := by omega
      clear hat1 hat2
      obtain ⟨⟨x1, x2, x3⟩, hx⟩ : ∃ x : ItT, l[j] = x := ⟨_, rfl⟩
      rw [hx] at p0 p1 p2 q0 q1 q2
      simp only at p0 p1 p2 q0 q1 q2
      clear hx hjL
      have hN : ∀ W : World, (binOp .neq 49 (.agg #[.string x1, .string x2, .int .i64 x3]) (.agg #[.string x1, .string x2, .int .i64 x3])).run Try.prog W = .ok (.bool false) W := fun W => eqIs .neq (x1, x2, x3) W (.inr rfl)
      obtain ⟨W1, hW1, hk1, hb1⟩ := new3 wr (.string x1) (.string x2) (.int .i64 x3) 66
      have HB1 : Hid (Below w.heap.size w W1) := HBW.out.trans (hb1.mono HBW.out.size)
      obtain ⟨d0, d1, d2⟩ := cells3 hk1
      have r0 : W1.cell? ⟨g1, j * 3, none⟩ = some (.string x1) := (hb1.cell (p := ⟨g1, j * 3, none⟩) hg1).trans p0
      have r1 : W1.cell? ⟨g1, j * 3 + 1, none⟩ = some (.string x2) := (hb1.cell (p := ⟨g1, j * 3 + 1, none⟩) hg1).trans p1
      have r2 : W1.cell? ⟨g1, j * 3 + 2, none⟩ = some (.int .i64 x3) := (hb1.cell (p := ⟨g1, j * 3 + 2, none⟩) hg1).trans p2
      have HW1 := Lib.hid hW1
      have hng : g1 ≠ wr.heap.size := by omega
      have hng2 : g2 ≠ wr.heap.size := by omega
      clear hW1 hk1 hb1
      go_wp2_with fail
      rw [← HW1.out]
      go_quiet (fail)
      go_wp2
      go_roundw
      case rel => exact ⟨j + 1, by omega, by go_num, Lib.hid (HB1.out.trans ((bdrN W1 _).mono HB1.out.size))⟩
      case measure => simp [intOf]; omega
    · have hjl : ¬ (j : Int) < (n : Int) := by omega
      go_wp2
      go_ret
      exact ⟨rfl, HBW.out⟩
end Go.Proofs.Ytjceofkcahfhmaa.Mv
