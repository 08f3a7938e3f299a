/- The contract of the law's own Pairs: for every slice of pairs that came in. -/
import Derived.Test.YtjgbfpkjkglfnaaDoorLbH
namespace Go.Proofs.YtjgbfpkjkglfnaaDoor.Lb
open Go.RowKit Ch Jt
set_option linter.unusedSimpArgs false
set_option linter.unusedVariables false

theorem two_cell {w : World} {g : Nat} {a b : ByteArray} {T : TypeId} (h : w.heap[g]? = some (.cells #[.string a, .string b] T (0, 0))) : ∀ (j : Nat) (u : Value), [Value.string a, .string b][j]? = some u → w.cell? ((⟨g, 0, none⟩ : Addr).add j) = some u := fun j u hu => by
  have hj : j < 2 := by
    rcases Nat.lt_or_ge j 2 with g | g
    · exact g
    · rw [List.getElem?_eq_none (by show 2 ≤ j; exact g)] at hu; cases hu
  have ea : (⟨g, 0, none⟩ : Addr).add j = ⟨g, j, none⟩ := by unfold Addr.add; split <;> simp_all
  rw [ea, cell_of_row _ _ j _ _ _ h]
  match j, hj with
  | 0, _ => exact hu
  | 1, _ => exact hu
theorem two_ok {a b : ByteArray} : ∀ u ∈ [Value.string a, .string b], u.oneCell' = true := fun u h => by simp at h; rcases h with rfl | rfl <;> rfl
theorem new_two (wr : World) (a b : Value) (T U : TypeId) : ∃ W1, W1 = (wr.alloc (.cells #[a, b] T)).alloc (.cells #[a, b] U) ∧ W1.heap[wr.heap.size + 1]? = some (.cells #[a, b] U (0, 0)) ∧ W1.heap[wr.heap.size]? = some (.cells #[a, b] T (0, 0)) ∧ Below wr.heap.size wr W1 := by
  refine ⟨_, rfl, ?_, ?_, ((Below.refl _ _).alloc (Nat.le_refl _) _).alloc (by simp) _⟩
  · have := heap_alloc_new (wr.alloc (.cells #[a, b] T)) (.cells #[a, b] U)
    simpa using this
  · have hb := (Below.refl (wr.heap.size + 1) (wr.alloc (.cells #[a, b] T))).alloc (by simp) (.cells #[a, b] U)
    exact (hb.block _ (by omega)).trans (heap_alloc_new wr _)
set_option maxRecDepth 100000 in
set_option maxHeartbeats 8000000 in
theorem Pairs_c (a : Option Addr) (cap : Nat) (ts : List FB) (w : World) (hP : IsPrs w a ts.length ts) :
    Calls Tryd.prog 6 #[.slice a ts.length cap] w fun e w' => ∃ vo vw, e = .returned (.tuple #[vo, vw]) ∧ OwF 52 w.heap.size vo (prK ts 6) w' ∧ OwF 48 w.heap.size vw (prK ts 6) w' ∧ Below w.heap.size w w' := by
  obtain ⟨_, hm, hz, hat⟩ := hP
  have HZ := Lib.hid hz
  have HA := Lib.hid hat
  clear hz hat
  unfold maxLen at hm
  obtain ⟨ip, hip, hpa, hpb, hpc⟩ := info_parts info2
  obtain ⟨ir, hir, hra, hrb, hrc⟩ := info_parts infoR
  go_enter Tryd.func6, Tryd.ntmps6
  go_wp2
  go_loopw [4, 5, 10] (fun ov wv iv wr => ∃ j : Nat, j ≤ ts.length ∧ j ≤ 6 ∧ iv = .int .i64 j ∧ OwF 52 w.heap.size ov (prK ts j) wr ∧ OwF 48 w.heap.size wv (prK ts j) wr ∧ Below w.heap.size w wr) (fun _ _ iv _ => ts.length - (intOf iv).toNat)
  case atStart => exact ⟨0, by omega, by omega, rfl, World.ownsRow_nil _ _ _ _, World.ownsRow_nil _ _ _ _, Below.refl _ _⟩
  case round =>
    obtain ⟨j, hj, hj6, rfl, hownO, hownW, hB⟩ := hrel
    have HOO := Lib.hid hownO
    have HOW := Lib.hid hownW
    have HB := Lib.hid hB
    obtain ⟨aoo, cpo, hvo⟩ := own_lenF hownO
    obtain ⟨aow, cpw, hvw⟩ := own_lenF hownW
    subst hvo hvw
    have hpq := prK_len ts hj6
    by_cases hlt : j < ts.length
    · obtain ⟨g, off, rfl, hg, hat⟩ := HA.out (by intro h; rw [h] at hlt; simp at hlt)
      have p0 := (hB.cell (p := ⟨g, off + j * 2, none⟩) hg).trans (hat j hlt).1
      have p1 := (hB.cell (p := ⟨g, off + j * 2 + 1, none⟩) hg).trans (hat j hlt).2
      obtain ⟨hsz1, hsz2⟩ := HZ.out _ (List.getElem_mem hlt)
      have hj0 : (0 : Int) ≤ (j : Int) := by omega
      have hjl : (j : Int) < (ts.length : Int) := by omega
      have hgn : g ≠ wr.heap.size := by have := hB.size; omega
      unfold maxLen at hsz1 hsz2
      by_cases h6 : j < 6
      · have h6' : ¬ (6 : Int) ≤ (j : Int) := by omega
        have HK := Lib.hid (prK_snoc hlt)
        unfold cutF at HK
        have X1 := cut20 ts[j].1
        have X2 := cut20n ts[j].1
        have Y1 := cut30 ts[j].2
        have Y2 := cut30n ts[j].2
        clear hownO hownW hB hat
        by_cases hx : 20 < ts[j].1.size
        · by_cases hy : 30 < ts[j].2.size
          · have HX := Lib.hid (X1 hx)
            have HY := Lib.hid (Y1 hy)
            clear X1 X2 Y1 Y2
            revert p0 p1 hsz1 hsz2 hx hy HX HY HK
            generalize ts[j].1 = x
            generalize ts[j].2 = y
            intro p0 p1 hsz1 hsz2 HK hx hy HX HY
            have hx' : (20 : Int) < (x.size : Int) := by omega
            have hy' : (30 : Int) < (y.size : Int) := by omega
            have HK2 : Hid (prK ts (j + 1) = prK ts j ++ [((x.extract 0 20), (y.extract 0 30))]) := by show _ = _; rw [HK.out, ← HX.out, ← HY.out]
            obtain ⟨W1, hW1, hk1, hk0, hb1⟩ := new_two wr (.string (x.extract 0 20)) (.string (y.extract 0 30)) 48 52
            have HW1 := Lib.hid hW1
            have HKX := Lib.hid hk0
            have hl1 : wr.heap.size < W1.heap.size := (Array.getElem?_eq_some_iff.1 hk0).1
            have HB1 : Hid (Below w.heap.size w W1) := HB.out.trans (hb1.mono HB.out.size)
            have IO := Lib.hid (HOO.out.go hb1)
            have IW := Lib.hid (HOW.out.go hb1)
            have DC := Lib.hid (two_cell hk1)
            have D3 : Hid ((prK ts j).length + 1 ≤ maxLen) := by show _ ≤ _; unfold maxLen; omega
            have D4 : Hid (((prK ts j).length + 1) * 32 ≤ 140737488355328) := by show _ ≤ _; omega
            have E1 : Hid (w.heap.size ≤ W1.heap.size) := HB1.out.size
            have LO : Hid (∀ k, (Value.slice aoo (prK ts j).length cpo).ownBlock = some k → w.heap.size ≤ k ∧ k < wr.heap.size) := HOO.out.lt
            have LW : Hid (∀ k, (Value.slice aow (prK ts j).length cpw).ownBlock = some k → w.heap.size ≤ k ∧ k < wr.heap.size) := HOW.out.lt
            clear hW1 hk1 hk0 hb1 HX HY HK
            go_wp2_with (at_builtin; rw [← HW1.out]; refine wpList_append_own _ rfl _ _ 23 rfl w.heap.size 52 ip _ 2 32 Tryd.underlying23 hip hpa hpb hpc rfl (by decide) _ _ _ rfl IO.out ⟨wr.heap.size + 1, 0, none⟩ 1 1 [.string (x.extract 0 20), .string (y.extract 0 30)] rfl rfl DC.out two_ok D3.out D4.out E1.out ?_)
            intro v1 V1 hown1 hgrow1 _
            have HK3 : Hid (V1.heap[wr.heap.size]? = some (.cells #[.string (x.extract 0 20), .string (y.extract 0 30)] 48 (0, 0))) := (hgrow1.block _ hl1 (fun e => by have := LO.out _ e.symm; omega)).trans HKX.out
            have HBV : Hid (Below w.heap.size w V1) := HB1.out.grown hgrow1 HB1.out.size (fun k hk => (LO.out k hk).1)
            have JW : Hid (OwF 48 w.heap.size (.slice aow (prK ts j).length cpw) (prK ts j) V1) := World.ownsRow.kept IW.out hgrow1 (own_apart IO.out IW.out (by decide))
            have JO : Hid (OwF 52 w.heap.size v1 (prK ts (j + 1)) V1) := by
              show OwF _ _ _ _ _
              rw [HK2.out]; unfold OwF; rw [fC_snoc, List.length_append]
              exact hown1
            obtain ⟨ao1, cp1, hv1⟩ := own_lenF hown1
            subst hv1
            clear hown1 hgrow1 HKX
            obtain ⟨e0, e1⟩ := cell2 HK3.out
            obtain ⟨W2, hW2, hk2, hb2⟩ : ∃ W2, W2 = V1.alloc (.cells #[.string (x.extract 0 20), .string (y.extract 0 30)] 48) ∧ W2.heap[V1.heap.size]? = some (.cells #[.string (x.extract 0 20), .string (y.extract 0 30)] 48 (0, 0)) ∧ Below V1.heap.size V1 W2 := ⟨_, rfl, heap_alloc_new V1 _, (Below.refl _ _).alloc (Nat.le_refl _) _⟩
            have HW2 := Lib.hid hW2
            have HB2 : Hid (Below w.heap.size w W2) := HBV.out.trans (hb2.mono HBV.out.size)
            have KO := Lib.hid (JO.out.go hb2)
            have KW := Lib.hid (JW.out.go hb2)
            have DC2 := Lib.hid (two_cell hk2)
            have E2 : Hid (w.heap.size ≤ W2.heap.size) := HB2.out.size
            clear hW2 hk2 hb2
            go_wp2_with (at_builtin; rw [← HW2.out]; refine wpList_append_own _ rfl _ _ 22 rfl w.heap.size 48 ir _ 2 32 Tryd.underlying22 hir hra hrb hrc rfl (by decide) _ _ _ rfl KW.out ⟨V1.heap.size, 0, none⟩ 1 1 [.string (x.extract 0 20), .string (y.extract 0 30)] rfl rfl DC2.out two_ok D3.out D4.out E2.out ?_)
            intro v2 V2 hown2 hgrow2 _
            have HBZ : Hid (Below w.heap.size w V2) := HB2.out.grown hgrow2 HB2.out.size (fun k hk => (LW.out k hk).1)
            have LO2 : Hid (OwF 52 w.heap.size (.slice ao1 ((prK ts j).length + 1) cp1) (prK ts (j + 1)) V2) := World.ownsRow.kept KO.out hgrow2 (own_apart KW.out KO.out (by decide))
            have LW2 : Hid (OwF 48 w.heap.size v2 (prK ts (j + 1)) V2) := by
              show OwF _ _ _ _ _
              rw [HK2.out]; unfold OwF; rw [fC_snoc, List.length_append]
              exact hown2
            clear hown2 hgrow2 e0 e1
            go_wp2
            go_roundw
            case rel => exact ⟨j + 1, by omega, by omega, by go_num, LO2.out, LW2.out, HBZ.out⟩
            case measure => simp [intOf]; omega
          · have HX := Lib.hid (X1 hx)
            have HY := Lib.hid (Y2 hy)
            clear X1 X2 Y1 Y2
            revert p0 p1 hsz1 hsz2 hx hy HX HY HK
            generalize ts[j].1 = x
            generalize ts[j].2 = y
            intro p0 p1 hsz1 hsz2 HK hx hy HX HY
            have hx' : (20 : Int) < (x.size : Int) := by omega
            have hy' : ¬ (30 : Int) < (y.size : Int) := by omega
            have HK2 : Hid (prK ts (j + 1) = prK ts j ++ [((x.extract 0 20), y)]) := by show _ = _; rw [HK.out, ← HX.out, ← HY.out]
            obtain ⟨W1, hW1, hk1, hk0, hb1⟩ := new_two wr (.string (x.extract 0 20)) (.string y) 48 52
            have HW1 := Lib.hid hW1
            have HKX := Lib.hid hk0
            have hl1 : wr.heap.size < W1.heap.size := (Array.getElem?_eq_some_iff.1 hk0).1
            have HB1 : Hid (Below w.heap.size w W1) := HB.out.trans (hb1.mono HB.out.size)
            have IO := Lib.hid (HOO.out.go hb1)
            have IW := Lib.hid (HOW.out.go hb1)
            have DC := Lib.hid (two_cell hk1)
            have D3 : Hid ((prK ts j).length + 1 ≤ maxLen) := by show _ ≤ _; unfold maxLen; omega
            have D4 : Hid (((prK ts j).length + 1) * 32 ≤ 140737488355328) := by show _ ≤ _; omega
            have E1 : Hid (w.heap.size ≤ W1.heap.size) := HB1.out.size
            have LO : Hid (∀ k, (Value.slice aoo (prK ts j).length cpo).ownBlock = some k → w.heap.size ≤ k ∧ k < wr.heap.size) := HOO.out.lt
            have LW : Hid (∀ k, (Value.slice aow (prK ts j).length cpw).ownBlock = some k → w.heap.size ≤ k ∧ k < wr.heap.size) := HOW.out.lt
            clear hW1 hk1 hk0 hb1 HX HY HK
            go_wp2_with (at_builtin; rw [← HW1.out]; refine wpList_append_own _ rfl _ _ 23 rfl w.heap.size 52 ip _ 2 32 Tryd.underlying23 hip hpa hpb hpc rfl (by decide) _ _ _ rfl IO.out ⟨wr.heap.size + 1, 0, none⟩ 1 1 [.string (x.extract 0 20), .string y] rfl rfl DC.out two_ok D3.out D4.out E1.out ?_)
            intro v1 V1 hown1 hgrow1 _
            have HK3 : Hid (V1.heap[wr.heap.size]? = some (.cells #[.string (x.extract 0 20), .string y] 48 (0, 0))) := (hgrow1.block _ hl1 (fun e => by have := LO.out _ e.symm; omega)).trans HKX.out
            have HBV : Hid (Below w.heap.size w V1) := HB1.out.grown hgrow1 HB1.out.size (fun k hk => (LO.out k hk).1)
            have JW : Hid (OwF 48 w.heap.size (.slice aow (prK ts j).length cpw) (prK ts j) V1) := World.ownsRow.kept IW.out hgrow1 (own_apart IO.out IW.out (by decide))
            have JO : Hid (OwF 52 w.heap.size v1 (prK ts (j + 1)) V1) := by
              show OwF _ _ _ _ _
              rw [HK2.out]; unfold OwF; rw [fC_snoc, List.length_append]
              exact hown1
            obtain ⟨ao1, cp1, hv1⟩ := own_lenF hown1
            subst hv1
            clear hown1 hgrow1 HKX
            obtain ⟨e0, e1⟩ := cell2 HK3.out
            obtain ⟨W2, hW2, hk2, hb2⟩ : ∃ W2, W2 = V1.alloc (.cells #[.string (x.extract 0 20), .string y] 48) ∧ W2.heap[V1.heap.size]? = some (.cells #[.string (x.extract 0 20), .string y] 48 (0, 0)) ∧ Below V1.heap.size V1 W2 := ⟨_, rfl, heap_alloc_new V1 _, (Below.refl _ _).alloc (Nat.le_refl _) _⟩
            have HW2 := Lib.hid hW2
            have HB2 : Hid (Below w.heap.size w W2) := HBV.out.trans (hb2.mono HBV.out.size)
            have KO := Lib.hid (JO.out.go hb2)
            have KW := Lib.hid (JW.out.go hb2)
            have DC2 := Lib.hid (two_cell hk2)
            have E2 : Hid (w.heap.size ≤ W2.heap.size) := HB2.out.size
            clear hW2 hk2 hb2
            go_wp2_with (at_builtin; rw [← HW2.out]; refine wpList_append_own _ rfl _ _ 22 rfl w.heap.size 48 ir _ 2 32 Tryd.underlying22 hir hra hrb hrc rfl (by decide) _ _ _ rfl KW.out ⟨V1.heap.size, 0, none⟩ 1 1 [.string (x.extract 0 20), .string y] rfl rfl DC2.out two_ok D3.out D4.out E2.out ?_)
            intro v2 V2 hown2 hgrow2 _
            have HBZ : Hid (Below w.heap.size w V2) := HB2.out.grown hgrow2 HB2.out.size (fun k hk => (LW.out k hk).1)
            have LO2 : Hid (OwF 52 w.heap.size (.slice ao1 ((prK ts j).length + 1) cp1) (prK ts (j + 1)) V2) := World.ownsRow.kept KO.out hgrow2 (own_apart KW.out KO.out (by decide))
            have LW2 : Hid (OwF 48 w.heap.size v2 (prK ts (j + 1)) V2) := by
              show OwF _ _ _ _ _
              rw [HK2.out]; unfold OwF; rw [fC_snoc, List.length_append]
              exact hown2
            clear hown2 hgrow2 e0 e1
            go_wp2
            go_roundw
            case rel => exact ⟨j + 1, by omega, by omega, by go_num, LO2.out, LW2.out, HBZ.out⟩
            case measure => simp [intOf]; omega
        · by_cases hy : 30 < ts[j].2.size
          · have HX := Lib.hid (X2 hx)
            have HY := Lib.hid (Y1 hy)
            clear X1 X2 Y1 Y2
            revert p0 p1 hsz1 hsz2 hx hy HX HY HK
            generalize ts[j].1 = x
            generalize ts[j].2 = y
            intro p0 p1 hsz1 hsz2 HK hx hy HX HY
            have hx' : ¬ (20 : Int) < (x.size : Int) := by omega
            have hy' : (30 : Int) < (y.size : Int) := by omega
            have HK2 : Hid (prK ts (j + 1) = prK ts j ++ [(x, (y.extract 0 30))]) := by show _ = _; rw [HK.out, ← HX.out, ← HY.out]
            obtain ⟨W1, hW1, hk1, hk0, hb1⟩ := new_two wr (.string x) (.string (y.extract 0 30)) 48 52
            have HW1 := Lib.hid hW1
            have HKX := Lib.hid hk0
            have hl1 : wr.heap.size < W1.heap.size := (Array.getElem?_eq_some_iff.1 hk0).1
            have HB1 : Hid (Below w.heap.size w W1) := HB.out.trans (hb1.mono HB.out.size)
            have IO := Lib.hid (HOO.out.go hb1)
            have IW := Lib.hid (HOW.out.go hb1)
            have DC := Lib.hid (two_cell hk1)
            have D3 : Hid ((prK ts j).length + 1 ≤ maxLen) := by show _ ≤ _; unfold maxLen; omega
            have D4 : Hid (((prK ts j).length + 1) * 32 ≤ 140737488355328) := by show _ ≤ _; omega
            have E1 : Hid (w.heap.size ≤ W1.heap.size) := HB1.out.size
            have LO : Hid (∀ k, (Value.slice aoo (prK ts j).length cpo).ownBlock = some k → w.heap.size ≤ k ∧ k < wr.heap.size) := HOO.out.lt
            have LW : Hid (∀ k, (Value.slice aow (prK ts j).length cpw).ownBlock = some k → w.heap.size ≤ k ∧ k < wr.heap.size) := HOW.out.lt
            clear hW1 hk1 hk0 hb1 HX HY HK
            go_wp2_with (at_builtin; rw [← HW1.out]; refine wpList_append_own _ rfl _ _ 23 rfl w.heap.size 52 ip _ 2 32 Tryd.underlying23 hip hpa hpb hpc rfl (by decide) _ _ _ rfl IO.out ⟨wr.heap.size + 1, 0, none⟩ 1 1 [.string x, .string (y.extract 0 30)] rfl rfl DC.out two_ok D3.out D4.out E1.out ?_)
            intro v1 V1 hown1 hgrow1 _
            have HK3 : Hid (V1.heap[wr.heap.size]? = some (.cells #[.string x, .string (y.extract 0 30)] 48 (0, 0))) := (hgrow1.block _ hl1 (fun e => by have := LO.out _ e.symm; omega)).trans HKX.out
            have HBV : Hid (Below w.heap.size w V1) := HB1.out.grown hgrow1 HB1.out.size (fun k hk => (LO.out k hk).1)
            have JW : Hid (OwF 48 w.heap.size (.slice aow (prK ts j).length cpw) (prK ts j) V1) := World.ownsRow.kept IW.out hgrow1 (own_apart IO.out IW.out (by decide))
            have JO : Hid (OwF 52 w.heap.size v1 (prK ts (j + 1)) V1) := by
              show OwF _ _ _ _ _
              rw [HK2.out]; unfold OwF; rw [fC_snoc, List.length_append]
              exact hown1
            obtain ⟨ao1, cp1, hv1⟩ := own_lenF hown1
            subst hv1
            clear hown1 hgrow1 HKX
            obtain ⟨e0, e1⟩ := cell2 HK3.out
            obtain ⟨W2, hW2, hk2, hb2⟩ : ∃ W2, W2 = V1.alloc (.cells #[.string x, .string (y.extract 0 30)] 48) ∧ W2.heap[V1.heap.size]? = some (.cells #[.string x, .string (y.extract 0 30)] 48 (0, 0)) ∧ Below V1.heap.size V1 W2 := ⟨_, rfl, heap_alloc_new V1 _, (Below.refl _ _).alloc (Nat.le_refl _) _⟩
            have HW2 := Lib.hid hW2
            have HB2 : Hid (Below w.heap.size w W2) := HBV.out.trans (hb2.mono HBV.out.size)
            have KO := Lib.hid (JO.out.go hb2)
            have KW := Lib.hid (JW.out.go hb2)
            have DC2 := Lib.hid (two_cell hk2)
            have E2 : Hid (w.heap.size ≤ W2.heap.size) := HB2.out.size
            clear hW2 hk2 hb2
            go_wp2_with (at_builtin; rw [← HW2.out]; refine wpList_append_own _ rfl _ _ 22 rfl w.heap.size 48 ir _ 2 32 Tryd.underlying22 hir hra hrb hrc rfl (by decide) _ _ _ rfl KW.out ⟨V1.heap.size, 0, none⟩ 1 1 [.string x, .string (y.extract 0 30)] rfl rfl DC2.out two_ok D3.out D4.out E2.out ?_)
            intro v2 V2 hown2 hgrow2 _
            have HBZ : Hid (Below w.heap.size w V2) := HB2.out.grown hgrow2 HB2.out.size (fun k hk => (LW.out k hk).1)
            have LO2 : Hid (OwF 52 w.heap.size (.slice ao1 ((prK ts j).length + 1) cp1) (prK ts (j + 1)) V2) := World.ownsRow.kept KO.out hgrow2 (own_apart KW.out KO.out (by decide))
            have LW2 : Hid (OwF 48 w.heap.size v2 (prK ts (j + 1)) V2) := by
              show OwF _ _ _ _ _
              rw [HK2.out]; unfold OwF; rw [fC_snoc, List.length_append]
              exact hown2
            clear hown2 hgrow2 e0 e1
            go_wp2
            go_roundw
            case rel => exact ⟨j + 1, by omega, by omega, by go_num, LO2.out, LW2.out, HBZ.out⟩
            case measure => simp [intOf]; omega
          · have HX := Lib.hid (X2 hx)
            have HY := Lib.hid (Y2 hy)
            clear X1 X2 Y1 Y2
            revert p0 p1 hsz1 hsz2 hx hy HX HY HK
            generalize ts[j].1 = x
            generalize ts[j].2 = y
            intro p0 p1 hsz1 hsz2 HK hx hy HX HY
            have hx' : ¬ (20 : Int) < (x.size : Int) := by omega
            have hy' : ¬ (30 : Int) < (y.size : Int) := by omega
            have HK2 : Hid (prK ts (j + 1) = prK ts j ++ [(x, y)]) := by show _ = _; rw [HK.out, ← HX.out, ← HY.out]
            obtain ⟨W1, hW1, hk1, hk0, hb1⟩ := new_two wr (.string x) (.string y) 48 52
            have HW1 := Lib.hid hW1
            have HKX := Lib.hid hk0
            have hl1 : wr.heap.size < W1.heap.size := (Array.getElem?_eq_some_iff.1 hk0).1
            have HB1 : Hid (Below w.heap.size w W1) := HB.out.trans (hb1.mono HB.out.size)
            have IO := Lib.hid (HOO.out.go hb1)
            have IW := Lib.hid (HOW.out.go hb1)
            have DC := Lib.hid (two_cell hk1)
            have D3 : Hid ((prK ts j).length + 1 ≤ maxLen) := by show _ ≤ _; unfold maxLen; omega
            have D4 : Hid (((prK ts j).length + 1) * 32 ≤ 140737488355328) := by show _ ≤ _; omega
            have E1 : Hid (w.heap.size ≤ W1.heap.size) := HB1.out.size
            have LO : Hid (∀ k, (Value.slice aoo (prK ts j).length cpo).ownBlock = some k → w.heap.size ≤ k ∧ k < wr.heap.size) := HOO.out.lt
            have LW : Hid (∀ k, (Value.slice aow (prK ts j).length cpw).ownBlock = some k → w.heap.size ≤ k ∧ k < wr.heap.size) := HOW.out.lt
            clear hW1 hk1 hk0 hb1 HX HY HK
            go_wp2_with (at_builtin; rw [← HW1.out]; refine wpList_append_own _ rfl _ _ 23 rfl w.heap.size 52 ip _ 2 32 Tryd.underlying23 hip hpa hpb hpc rfl (by decide) _ _ _ rfl IO.out ⟨wr.heap.size + 1, 0, none⟩ 1 1 [.string x, .string y] rfl rfl DC.out two_ok D3.out D4.out E1.out ?_)
            intro v1 V1 hown1 hgrow1 _
            have HK3 : Hid (V1.heap[wr.heap.size]? = some (.cells #[.string x, .string y] 48 (0, 0))) := (hgrow1.block _ hl1 (fun e => by have := LO.out _ e.symm; omega)).trans HKX.out
            have HBV : Hid (Below w.heap.size w V1) := HB1.out.grown hgrow1 HB1.out.size (fun k hk => (LO.out k hk).1)
            have JW : Hid (OwF 48 w.heap.size (.slice aow (prK ts j).length cpw) (prK ts j) V1) := World.ownsRow.kept IW.out hgrow1 (own_apart IO.out IW.out (by decide))
            have JO : Hid (OwF 52 w.heap.size v1 (prK ts (j + 1)) V1) := by
              show OwF _ _ _ _ _
              rw [HK2.out]; unfold OwF; rw [fC_snoc, List.length_append]
              exact hown1
            obtain ⟨ao1, cp1, hv1⟩ := own_lenF hown1
            subst hv1
            clear hown1 hgrow1 HKX
            obtain ⟨e0, e1⟩ := cell2 HK3.out
            obtain ⟨W2, hW2, hk2, hb2⟩ : ∃ W2, W2 = V1.alloc (.cells #[.string x, .string y] 48) ∧ W2.heap[V1.heap.size]? = some (.cells #[.string x, .string y] 48 (0, 0)) ∧ Below V1.heap.size V1 W2 := ⟨_, rfl, heap_alloc_new V1 _, (Below.refl _ _).alloc (Nat.le_refl _) _⟩
            have HW2 := Lib.hid hW2
            have HB2 : Hid (Below w.heap.size w W2) := HBV.out.trans (hb2.mono HBV.out.size)
            have KO := Lib.hid (JO.out.go hb2)
            have KW := Lib.hid (JW.out.go hb2)
            have DC2 := Lib.hid (two_cell hk2)
            have E2 : Hid (w.heap.size ≤ W2.heap.size) := HB2.out.size
            clear hW2 hk2 hb2
            go_wp2_with (at_builtin; rw [← HW2.out]; refine wpList_append_own _ rfl _ _ 22 rfl w.heap.size 48 ir _ 2 32 Tryd.underlying22 hir hra hrb hrc rfl (by decide) _ _ _ rfl KW.out ⟨V1.heap.size, 0, none⟩ 1 1 [.string x, .string y] rfl rfl DC2.out two_ok D3.out D4.out E2.out ?_)
            intro v2 V2 hown2 hgrow2 _
            have HBZ : Hid (Below w.heap.size w V2) := HB2.out.grown hgrow2 HB2.out.size (fun k hk => (LW.out k hk).1)
            have LO2 : Hid (OwF 52 w.heap.size (.slice ao1 ((prK ts j).length + 1) cp1) (prK ts (j + 1)) V2) := World.ownsRow.kept KO.out hgrow2 (own_apart KW.out KO.out (by decide))
            have LW2 : Hid (OwF 48 w.heap.size v2 (prK ts (j + 1)) V2) := by
              show OwF _ _ _ _ _
              rw [HK2.out]; unfold OwF; rw [fC_snoc, List.length_append]
              exact hown2
            clear hown2 hgrow2 e0 e1
            go_wp2
            go_roundw
            case rel => exact ⟨j + 1, by omega, by omega, by go_num, LO2.out, LW2.out, HBZ.out⟩
            case measure => simp [intOf]; omega
      · clear hownO hownW hB hat
        have hje : j = 6 := by omega
        subst hje
        revert p0 p1
        generalize ts[6].1 = x
        generalize ts[6].2 = y
        intro p0 p1
        have hba : Below wr.heap.size wr (wr.alloc (.cells #[.string x, .string y] 48)) := (Below.refl _ _).alloc (Nat.le_refl _) _
        have LO2 := Lib.hid (HOO.out.go hba)
        have LW2 := Lib.hid (HOW.out.go hba)
        have HBZ : Hid (Below w.heap.size w (wr.alloc (.cells #[.string x, .string y] 48))) := HB.out.trans (hba.mono HB.out.size)
        clear hba
        go_wp2
        go_ret2
        exact ⟨_, _, rfl, LO2.out, LW2.out, HBZ.out⟩
    · have hpe : prK ts j = prK ts 6 := by
        unfold prK
        rw [List.take_of_length_le (by omega), List.take_of_length_le (by omega)]
      clear hownO hownW hB
      rw [hpe] at HOO HOW ⊢
      go_wp2
      go_ret2
      exact ⟨_, _, rfl, HOO.out, HOW.out, HB.out⟩
end Go.Proofs.YtjgbfpkjkglfnaaDoor.Lb
