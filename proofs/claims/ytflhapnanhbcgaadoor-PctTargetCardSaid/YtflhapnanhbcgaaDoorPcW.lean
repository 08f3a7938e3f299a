/- PctTarget's walk. -/
import Derived.Test.YtflhapnanhbcgaaDoorPcArg
import Derived.Deep.AppendLies
namespace Go.Proofs.YtflhapnanhbcgaaDoor.Pc
open Go.RowKit Jt
set_option linter.unusedSimpArgs false
set_option linter.unusedVariables false
theorem infoR2 : (Tryd.prog.info? 27).map (fun i => (i.zero, i.size, i.bytes)) = some (some (.agg #[.string ⟨#[]⟩, .string ⟨#[]⟩]), 2, 32) := by kernel_rfl
theorem one_cell {w : World} {s : ByteArray} : ∀ (j : Nat) (u : Value), [Value.string s][j]? = some u → (w.alloc (.cells #[.string s] 9)).cell? ((⟨w.heap.size, 0, none⟩ : Addr).add j) = some u := fun j u h => by
  have hj : j < 1 := by
    rcases Nat.lt_or_ge j 1 with g | g
    · exact g
    · rw [List.getElem?_eq_none (by show 1 ≤ j; exact g)] at h; cases h
  obtain rfl : j = 0 := by omega
  have ea : (⟨w.heap.size, 0, none⟩ : Addr).add 0 = ⟨w.heap.size, 0, none⟩ := by unfold Addr.add; split <;> simp_all
  rw [ea, cell_of_row _ _ 0 _ _ _ (heap_alloc_new w _)]
  exact h
theorem one_ok {s : ByteArray} : ∀ u ∈ [Value.string s], u.oneCell' = true := fun u h => by simp at h; subst h; rfl
theorem two_cell {w : World} {g : Nat} {a b : ByteArray} {T : TypeId} (h : w.heap[g]? = some (.cells #[.string a, .string b] T (0, 0))) : ∀ (j : Nat) (u : Value), [Value.string a, .string b][j]? = some u → w.cell? ((⟨g, 0, none⟩ : Addr).add j) = some u := fun j u hu => by
  have hj : j < 2 := by
    rcases Nat.lt_or_ge j 2 with g | g
    · exact g
    · rw [List.getElem?_eq_none (by show 2 ≤ j; exact g)] at hu; cases hu
  have ea : (⟨g, 0, none⟩ : Addr).add j = ⟨g, j, none⟩ := by unfold Addr.add; split <;> simp_all
  rw [ea, cell_of_row _ _ j _ _ _ h]
  match j, hj with
  | 0, _ => exact hu
  | 1, _ => exact hu
theorem two_ok {a b : ByteArray} : ∀ u ∈ [Value.string a, .string b], u.oneCell' = true := fun u h => by simp at h; rcases h with rfl | rfl <;> rfl
set_option maxRecDepth 100000 in
set_option maxHeartbeats 16000000 in
theorem walk (a0 : Option Addr) (len0 cap0 : Nat) (ss : List ByteArray) (a1 : Option Addr) (len1 cap1 : Nat) (qs : List (ByteArray × ByteArray)) (w : World) (hS : IsStrs w a0 len0 ss) (hP : IsPrs w a1 len1 qs) (hT : True) :
    Calls Tryd.prog 3 #[.slice a0 len0 cap0, .slice a1 len1 cap1] w fun e w' => e = .returned (.bool true) ∧ Below w.heap.size w w' := by
  obtain ⟨hl0, hm0, hz0, hat0⟩ := hS
  obtain ⟨hl1, hm1, hz1, hat1⟩ := hP
  subst hl0 hl1
  clear hT
  have HZ0 := Lib.hid hz0
  have HZ1 := Lib.hid hz1
  have HA0 := Lib.hid hat0
  have HA1 := Lib.hid hat1
  clear hz0 hz1 hat0 hat1
  obtain ⟨i9, hi9, h9a, h9b, h9c⟩ := info_parts info9'
  obtain ⟨ip, hip, hpa, hpb, hpc⟩ := info_parts infoP
  obtain ⟨ir, hir, hra, hrb, hrc⟩ := info_parts infoR2
  unfold maxLen at hm0 hm1
  have hs := stood
  go_enter Tryd.func3, Tryd.ntmps3
  go_wp2
  go_loopw [5, 24] (fun pv iv wr => ∃ j : Nat, j ≤ ss.length ∧ iv = .int .i64 j ∧ OwS w.heap.size pv (psK ss j) wr ∧ Below w.heap.size w wr) (fun _ iv _ => ss.length - (intOf iv).toNat)
  case atStart => exact ⟨0, by omega, rfl, World.ownsRow_nil _ _ _ _, Below.refl _ _⟩
  case round =>
    obtain ⟨j, hj, rfl, hown, hB⟩ := hrel
    have HO := Lib.hid hown
    have HB := Lib.hid hB
    obtain ⟨ao, cp, hv⟩ := own_lenT hown
    subst hv
    have hpl := psK_len ss j
    by_cases hlt : j < ss.length
    · obtain ⟨g, off, rfl, hg, hat⟩ := HA0.out (by intro h; rw [h] at hlt; simp at hlt)
      have p0 := (hB.cell (p := ⟨g, off + j, none⟩) hg).trans (hat j hlt)
      have hsz := HZ0.out _ (List.getElem_mem hlt)
      have HSH := Lib.hid (fun W => short_c ss[j] W hsz)
      have hj0 : (0 : Int) ≤ (j : Int) := by omega
      have hjl : (j : Int) < (ss.length : Int) := by omega
      clear hown hB hat
      by_cases h5 : j < 5
      · have h5' : (j : Int) < 5 := by omega
        have HK := Lib.hid (psK_yes hlt h5)
        revert p0 hsz HSH HK
        generalize ss[j] = x
        generalize shortL x.data.toList = sx
        intro p0 hsz HSH HK
        have HBW : Hid (Below wr.heap.size wr (wr.alloc (.cells #[.string (mkS sx)] 9))) := (Below.refl wr.heap.size wr).alloc (Nat.le_refl _) _
        have HOW := Lib.hid (HO.out.go HBW.out)
        have HN : Hid (OwS w.heap.size (.slice ao (psK ss j).length cp) (psK ss j) wr) := HO.out
        generalize psK ss j = acc at HO HOW HK HN hpl ⊢
        have C3 : Hid (acc.length + 1 ≤ maxLen) := by show _ ≤ _; unfold maxLen; omega
        have C4 : Hid ((acc.length + 1) * 16 ≤ 140737488355328) := by show _ ≤ _; omega
        have C5 : Hid (w.heap.size ≤ (wr.alloc (.cells #[.string (mkS sx)] 9)).heap.size) := Nat.le_trans HB.out.size HBW.out.size
        go_wp2_with (first
          | (go_at_call 4; refine (HSH.out _).mono ?_; rintro e w' ⟨rfl, hw⟩; rw [← hw]; clear hw)
          | (at_builtin; refine wpList_append_own _ rfl _ _ 22 rfl w.heap.size 9 i9 (.string ByteArray.empty) 1 16 Tryd.underlying22 hi9 h9a h9b h9c rfl (by decide) _ _ _ rfl HOW.out ⟨wr.heap.size, 0, none⟩ 1 1 [.string (mkS sx)] rfl rfl one_cell one_ok C3.out C4.out C5.out ?_))
        intro v' w5 hown' hgrow _
        have HO5 : Hid (OwS w.heap.size v' (acc ++ [sx]) w5) := by
          show OwS w.heap.size v' (acc ++ [sx]) w5
          unfold OwS
          rw [stV_snoc, List.length_append]
          exact hown'
        have HB5 : Hid (Below w.heap.size w w5) := by
          have hb := HB.out.trans (HBW.out.mono HB.out.size)
          exact hb.grown hgrow hb.size (fun k hk => (HOW.out.lt k hk).1)
        clear hown' hgrow HOW HBW HN
        go_wp2
        go_roundw
        case rel => exact ⟨j + 1, by omega, by go_num, by rw [HK.out]; exact HO5.out, HB5.out⟩
        case measure => simp [intOf]; omega
      · have h5' : ¬ (j : Int) < 5 := by omega
        have HK := Lib.hid (psK_no (ss := ss) h5)
        revert p0 hsz HSH
        generalize ss[j] = x
        intro p0 hsz HSH
        go_wp2
        go_roundw
        case rel => exact ⟨j + 1, by omega, by go_num, by rw [HK.out]; exact HO.out, HB.out⟩
        case measure => simp [intOf]; omega
    · clear hown hB
      have hje : j = ss.length := by omega
      subst hje
      obtain ⟨ps, hps⟩ : ∃ ps, ps = psK ss ss.length := ⟨_, rfl⟩
      have HPM : Hid (∀ p ∈ ps, p.length ≤ 100) := fun p hp => psK_mem (hps ▸ hp)
      rw [← hps] at HO hpl ⊢
      clear hps HZ0 HA0
      go_wp2
      go_loopw [6, 7, 39] (fun ov wv iv wr => ∃ j : Nat, j ≤ qs.length ∧ iv = .int .i64 j ∧ OwS w.heap.size (.slice ao ps.length cp) ps wr ∧ OwP 28 w.heap.size ov (qsK qs j) wr ∧ OwP 27 w.heap.size wv (qsK qs j) wr ∧ Below w.heap.size w wr) (fun _ _ iv _ => qs.length - (intOf iv).toNat)
      case atStart => exact ⟨0, by omega, rfl, HO.out, World.ownsRow_nil _ _ _ _, World.ownsRow_nil _ _ _ _, HB.out⟩
      case round =>
        rename World => wq
        clear HO HB
        obtain ⟨j, hj, rfl, hown, hownO, hownW, hB⟩ := hrel
        have HO := Lib.hid hown
        have HOO := Lib.hid hownO
        have HOW := Lib.hid hownW
        have HB := Lib.hid hB
        obtain ⟨aoo, cpo, hvo⟩ := own_lenT hownO
        obtain ⟨aow, cpw, hvw⟩ := own_lenT hownW
        subst hvo hvw
        have hpq := qsK_len qs j
        by_cases hlt : j < qs.length
        · obtain ⟨g, off, rfl, hg, hat⟩ := HA1.out (by intro h; rw [h] at hlt; simp at hlt)
          have p0 := (hB.cell (p := ⟨g, off + j * 2, none⟩) hg).trans (hat j hlt).1
          have p1 := (hB.cell (p := ⟨g, off + j * 2 + 1, none⟩) hg).trans (hat j hlt).2
          have hsz1 := (HZ1.out _ (List.getElem_mem hlt)).1
          have hsz2 := (HZ1.out _ (List.getElem_mem hlt)).2
          have HSH1 := Lib.hid (fun W => short_c qs[j].1 W hsz1)
          have HSH2 := Lib.hid (fun W => short_c qs[j].2 W hsz2)
          have hj0 : (0 : Int) ≤ (j : Int) := by omega
          have hjl : (j : Int) < (qs.length : Int) := by omega
          have hgq : g < wq.heap.size := Nat.lt_of_lt_of_le hg hB.size
          have hgn : g ≠ wq.heap.size := by omega
          clear hown hownO hownW hB hat
          by_cases h5 : j < 5
          · have h5' : (j : Int) < 5 := by omega
            have HK := Lib.hid (qsK_yes hlt h5)
            revert p0 p1 hsz1 hsz2 HSH1 HSH2 HK
            generalize qs[j].1 = x
            generalize qs[j].2 = y
            generalize shortL x.data.toList = sx
            generalize shortL y.data.toList = sy
            intro p0 p1 hsz1 hsz2 HSH1 HSH2 HK
            obtain ⟨W0, hW0, hk0, hb0⟩ : ∃ W0, W0 = wq.alloc (.cells #[.string x, .string y] 27) ∧ W0.heap[wq.heap.size]? = some (.cells #[.string x, .string y] 27 (0, 0)) ∧ Below wq.heap.size wq W0 :=
              ⟨_, rfl, heap_alloc_new wq _, (Below.refl wq.heap.size wq).alloc (Nat.le_refl _) _⟩
            have HWE := Lib.hid hW0
            have HK0 : Hid (W0.drew.heap[wq.heap.size]? = some (.cells #[.string x, .string y] 27 (0, 0))) := hk0
            have HB0 : Hid (Below wq.heap.size wq W0.drew) := hb0.drew
            have C0 : Hid (W0.drew.cell? ⟨wq.heap.size, 0, none⟩ = some (.string x) ∧ W0.drew.cell? ⟨wq.heap.size, 1, none⟩ = some (.string y)) := ⟨by rw [Lib.cell_of_heap HK0.out]; rfl, by rw [Lib.cell_of_heap HK0.out]; rfl⟩
            clear hW0 hk0 hb0
            go_wp2_with fail
            rw [← HWE.out]
            clear HWE p0 p1
            have D3 : Hid ((qsK qs j).length + 1 ≤ maxLen) := by show _ ≤ _; unfold maxLen; omega
            have D4 : Hid (((qsK qs j).length + 1) * 32 ≤ 140737488355328) := by show _ ≤ _; omega
            have HLO1 : Hid (∀ k, (Value.slice aoo (qsK qs j).length cpo).ownBlock = some k → w.heap.size ≤ k ∧ k < wq.heap.size) := HOO.out.lt
            have HLO2 : Hid (∀ k, (Value.slice aow (qsK qs j).length cpw).ownBlock = some k → w.heap.size ≤ k ∧ k < wq.heap.size) := HOW.out.lt
            have HBW : Hid (Below w.heap.size w W0.drew) := HB.out.trans (HB0.out.mono HB.out.size)
            obtain ⟨W1, hW1, hk1, hb1⟩ : ∃ W1, W1 = W0.alloc (.cells #[.string (mkS sx), .string (mkS sy)] 28) ∧ W1.drew.heap[W0.heap.size]? = some (.cells #[.string (mkS sx), .string (mkS sy)] 28 (0, 0)) ∧ Below W0.drew.heap.size W0.drew W1.drew :=
              ⟨_, rfl, heap_alloc_new W0 _, (show Below W0.drew.heap.size W0.drew (W0.drew.alloc (.cells #[.string (mkS sx), .string (mkS sy)] 28)) from (Below.refl _ _).alloc (Nat.le_refl _) _)⟩
            have HWE1 := Lib.hid hW1
            have HKA1 := Lib.hid hk1
            have HB1 : Hid (Below w.heap.size w W1.drew) := HBW.out.trans (hb1.mono HBW.out.size)
            have I1X := Lib.hid ((HOO.out.go HB0.out).go hb1)
            have I1W := Lib.hid (((HOW.out.go HB0.out).go hb1))
            have I1P := Lib.hid (((HO.out.go HB0.out).go hb1))
            have E1 : Hid (w.heap.size ≤ W1.drew.heap.size) := HB1.out.size
            have DC1 := Lib.hid (two_cell HKA1.out)
            have HKW1 : Hid (W1.drew.heap[wq.heap.size]? = some (.cells #[.string x, .string y] 27 (0, 0))) := (hb1.block _ (Array.getElem?_eq_some_iff.1 HK0.out).1).trans HK0.out
            have HLT1 : Hid (wq.heap.size < W1.drew.heap.size) := (Array.getElem?_eq_some_iff.1 HKW1.out).1
            have C1 : Hid (W1.drew.cell? ⟨wq.heap.size, 0, none⟩ = some (.string x) ∧ W1.drew.cell? ⟨wq.heap.size, 1, none⟩ = some (.string y)) := ⟨by rw [Lib.cell_of_heap HKW1.out]; rfl, by rw [Lib.cell_of_heap HKW1.out]; rfl⟩
            clear hW1 hk1 hb1
            obtain ⟨c0, c1⟩ := C0.out
            go_region_held3 (fun V => V.cell? ⟨wq.heap.size, 0, none⟩ = some (.string x) ∧ V.cell? ⟨wq.heap.size, 1, none⟩ = some (.string y))
              (first | (with_reducible exact C0.out) | (rw [← HWE1.out]; with_reducible exact C1.out) | (with_reducible exact D1.out))
              (first
                | (go_at_call 4; (with_reducible refine (HSH1.out _).mono ?_); rintro e w' ⟨rfl, hw⟩; rw [← hw]; clear hw)
                | (go_at_call 4; (with_reducible refine (HSH2.out _).mono ?_); rintro e w' ⟨rfl, hw⟩; rw [← hw]; clear hw)
                | (rw [← HWE1.out]; refine step_append_lies _ rfl _ _ 24 rfl w.heap.size 28 ip _ 2 32 Tryd.underlying24 hip hpa hpb hpc rfl (by decide) _ _ _ rfl I1X.out ⟨W0.heap.size, 0, none⟩ 1 1 [.string (mkS sx), .string (mkS sy)] rfl rfl DC1.out two_ok (by decide) D3.out D4.out E1.out W1.drew.heap.size rfl ?_; intro g1 capA V1 hown1 hgrow1 hat1 hlt1; have HGR1 := Lib.hid hgrow1; have HOWN1 := Lib.hid hown1; have HKE1 : Hid (V1.heap[wq.heap.size]? = some (.cells #[.string x, .string y] 27 (0, 0))) := (hgrow1.block _ HLT1.out (fun e => by have := HLO1.out _ e.symm; omega)).trans HKW1.out; have D1 : Hid (V1.cell? ⟨wq.heap.size, 0, none⟩ = some (.string x) ∧ V1.cell? ⟨wq.heap.size, 1, none⟩ = some (.string y)) := ⟨by rw [Lib.cell_of_heap HKE1.out]; rfl, by rw [Lib.cell_of_heap HKE1.out]; rfl⟩; clear hown1 hgrow1 hat1 hlt1))
            have HBV : Hid (Below w.heap.size w V1) := HB1.out.grown HGR1.out HB1.out.size (fun k hk => (HLO1.out k hk).1)
            have JW : Hid (OwP 27 w.heap.size (.slice aow (qsK qs j).length cpw) (qsK qs j) V1) := World.ownsRow.kept I1W.out HGR1.out (own_apart I1X.out I1W.out (by decide))
            have JP : Hid (OwS w.heap.size (.slice ao ps.length cp) ps V1) := World.ownsRow.kept I1P.out HGR1.out (own_apart I1X.out I1P.out (by decide))
            have bdr : Below V1.heap.size V1 V1.drew := ⟨rfl, rfl, rfl, Nat.le_refl _, fun _ _ => rfl⟩
            have HBD : Hid (Below w.heap.size w V1.drew) := HBV.out.trans (bdr.mono HBV.out.size)
            have HKD : Hid (V1.drew.heap[wq.heap.size]? = some (.cells #[.string x, .string y] 27 (0, 0))) := HKE1.out
            have CD : Hid (V1.drew.cell? ⟨wq.heap.size, 0, none⟩ = some (.string x) ∧ V1.drew.cell? ⟨wq.heap.size, 1, none⟩ = some (.string y)) := D1.out
            have JX : Hid (World.ownsRow V1 w.heap.size 28 2 (.slice (some ⟨g1, 0, none⟩) ((qsK qs j).length + 1) capA) ((qsK qs j).length + 1) (prC (qsK qs j) ++ [.string (mkS sx), .string (mkS sy)])) := HOWN1.out
            have KW := Lib.hid (JW.out.go bdr)
            have KP := Lib.hid (JP.out.go bdr)
            have KX : Hid (OwP 28 w.heap.size (.slice (some ⟨g1, 0, none⟩) ((qsK qs j).length + 1) capA) (qsK qs (j + 1)) V1.drew) := by
              show OwP _ _ _ _ _
              rw [HK.out]; unfold OwP; rw [prC_snoc, List.length_append]
              exact World.ownsRow.kept HOWN1.out (row := none) ⟨bdr.os, bdr.tape, bdr.output, bdr.size, fun k hk _ => bdr.block k hk⟩ (by cases hv : (Value.slice (some ⟨g1, 0, none⟩) ((qsK qs j).length + 1) capA).ownBlock <;> simp)
            clear bdr JX
            clear c0 c1
            go_wp2_with fail
            obtain ⟨W2, hW2, hk2, hb2⟩ : ∃ W2, W2 = V1.alloc (.cells #[.string (mkS sx), .string (mkS sy)] 27) ∧ W2.drew.heap[V1.heap.size]? = some (.cells #[.string (mkS sx), .string (mkS sy)] 27 (0, 0)) ∧ Below V1.drew.heap.size V1.drew W2.drew :=
              ⟨_, rfl, heap_alloc_new V1 _, (show Below V1.drew.heap.size V1.drew (V1.drew.alloc (.cells #[.string (mkS sx), .string (mkS sy)] 27)) from (Below.refl _ _).alloc (Nat.le_refl _) _)⟩
            have HWE2 := Lib.hid hW2
            have HKA2 := Lib.hid hk2
            have HB2 : Hid (Below w.heap.size w W2.drew) := HBD.out.trans (hb2.mono HBD.out.size)
            have I2X := Lib.hid (KW.out.go hb2)
            have I2O := Lib.hid (KX.out.go hb2)
            have I2P := Lib.hid ((KP.out.go hb2))
            have E2 : Hid (w.heap.size ≤ W2.drew.heap.size) := HB2.out.size
            have DC2 := Lib.hid (two_cell HKA2.out)
            have HKW2 : Hid (W2.drew.heap[wq.heap.size]? = some (.cells #[.string x, .string y] 27 (0, 0))) := (hb2.block _ (Array.getElem?_eq_some_iff.1 HKD.out).1).trans HKD.out
            have HLT2 : Hid (wq.heap.size < W2.drew.heap.size) := (Array.getElem?_eq_some_iff.1 HKW2.out).1
            have C2 : Hid (W2.drew.cell? ⟨wq.heap.size, 0, none⟩ = some (.string x) ∧ W2.drew.cell? ⟨wq.heap.size, 1, none⟩ = some (.string y)) := ⟨by rw [Lib.cell_of_heap HKW2.out]; rfl, by rw [Lib.cell_of_heap HKW2.out]; rfl⟩
            clear hW2 hk2 hb2
            obtain ⟨c0, c1⟩ := CD.out
            go_region_held3 (fun V => V.cell? ⟨wq.heap.size, 0, none⟩ = some (.string x) ∧ V.cell? ⟨wq.heap.size, 1, none⟩ = some (.string y))
              (first | (with_reducible exact CD.out) | (rw [← HWE2.out]; with_reducible exact C2.out) | (with_reducible exact D2.out))
              (first
                | (go_at_call 4; (with_reducible refine (HSH1.out _).mono ?_); rintro e w' ⟨rfl, hw⟩; rw [← hw]; clear hw)
                | (go_at_call 4; (with_reducible refine (HSH2.out _).mono ?_); rintro e w' ⟨rfl, hw⟩; rw [← hw]; clear hw)
                | (rw [← HWE2.out]; refine step_append_lies _ rfl _ _ 23 rfl w.heap.size 27 ir _ 2 32 Tryd.underlying23 hir hra hrb hrc rfl (by decide) _ _ _ rfl I2X.out ⟨V1.heap.size, 0, none⟩ 1 1 [.string (mkS sx), .string (mkS sy)] rfl rfl DC2.out two_ok (by decide) D3.out D4.out E2.out W2.drew.heap.size rfl ?_; intro g2 cap2 V2 hown2 hgrow2 hat2 hlt2; have HGR2 := Lib.hid hgrow2; have HOWN2 := Lib.hid hown2; have HKE2 : Hid (V2.heap[wq.heap.size]? = some (.cells #[.string x, .string y] 27 (0, 0))) := (hgrow2.block _ HLT2.out (fun e => by have := HLO2.out _ e.symm; omega)).trans HKW2.out; have D2 : Hid (V2.cell? ⟨wq.heap.size, 0, none⟩ = some (.string x) ∧ V2.cell? ⟨wq.heap.size, 1, none⟩ = some (.string y)) := ⟨by rw [Lib.cell_of_heap HKE2.out]; rfl, by rw [Lib.cell_of_heap HKE2.out]; rfl⟩; clear hown2 hgrow2 hat2 hlt2))
            have HBZ : Hid (Below w.heap.size w V2) := HB2.out.grown HGR2.out HB2.out.size (fun k hk => (HLO2.out k hk).1)
            have JO : Hid (OwP 28 w.heap.size (.slice (some ⟨g1, 0, none⟩) ((qsK qs j).length + 1) capA) (qsK qs (j + 1)) V2) := World.ownsRow.kept I2O.out HGR2.out (own_apart I2X.out I2O.out (by decide))
            have JP2 : Hid (OwS w.heap.size (.slice ao ps.length cp) ps V2) := World.ownsRow.kept I2P.out HGR2.out (own_apart I2X.out I2P.out (by decide))
            have JW2 : Hid (OwP 27 w.heap.size (.slice (some ⟨g2, 0, none⟩) ((qsK qs j).length + 1) cap2) (qsK qs (j + 1)) V2) := by
              show OwP _ _ _ _ _
              rw [HK.out]; unfold OwP; rw [prC_snoc, List.length_append]
              exact HOWN2.out
            clear c0 c1 HGR1 HGR2
            go_wp2
            go_roundw
            case rel => exact ⟨j + 1, by omega, by go_num, JP2.out, JO.out, JW2.out, HBZ.out⟩
            case measure => simp [intOf]; omega
          · have h5' : ¬ (j : Int) < 5 := by omega
            have HK := Lib.hid (qsK_no (ss := qs) h5)
            revert p0 p1
            generalize qs[j].1 = x
            generalize qs[j].2 = y
            intro p0 p1
            have hba : Below wq.heap.size wq (wq.alloc (.cells #[.string x, .string y] 27)) := (Below.refl _ _).alloc (Nat.le_refl _) _
            have HO2 := Lib.hid (HO.out.go hba)
            have HOO2 := Lib.hid (HOO.out.go hba)
            have HOW2 := Lib.hid (HOW.out.go hba)
            have HB2 : Hid (Below w.heap.size w (wq.alloc (.cells #[.string x, .string y] 27))) := HB.out.trans (hba.mono HB.out.size)
            clear hba HSH1 HSH2
            go_wp2
            go_roundw
            case rel => exact ⟨j + 1, by omega, by go_num, HO2.out, by rw [HK.out]; exact HOO2.out, by rw [HK.out]; exact HOW2.out, HB2.out⟩
            case measure => simp [intOf]; omega
        · clear hown hownO hownW hB
          have hje : j = qs.length := by omega
          subst hje
          obtain ⟨ql, hql⟩ : ∃ ql, ql = qsK qs qs.length := ⟨_, rfl⟩
          have HQM : Hid (∀ x ∈ ql, x.1.length ≤ 100 ∧ x.2.length ≤ 100) := fun p hp => qsK_mem (hql ▸ hp)
          rw [← hql] at HOO HOW hpq ⊢
          clear hql HZ1 HA1
          have HTG := Lib.hid (Target_c (.slice ao ps.length cp) (.slice aoo ql.length cpo) ps ql w.heap.size w.heap.size wq HO.out HOO.out (fun p hp => Nat.le_trans (HPM.out p hp) (by omega)) (fun x hx => ⟨Nat.le_trans (HQM.out x hx).1 (by omega), Nat.le_trans (HQM.out x hx).2 (by omega)⟩) (by omega) (by omega))
          have hteq := spl_back ps ql
          have htl := tgt_len HPM.out HQM.out hpl hpq
          have HTR := Lib.hid (fun W h1 h2 => TargetR_c (.slice ao ps.length cp) (.slice aow ql.length cpw) ps ql w.heap.size w.heap.size W h1 h2 (fun p hp => Nat.le_trans (HPM.out p hp) (by omega)) (fun x hx => ⟨Nat.le_trans (HQM.out x hx).1 (by omega), Nat.le_trans (HQM.out x hx).2 (by omega)⟩) (by omega) (by omega))
          have HSP := Lib.hid (fun W => Split_c (mkS (tgtL ps ql)) W (by rw [size_mkS]; omega))
          rw [data_mkS, hteq] at HSP
          clear hteq htl
          revert HTG HTR HSP
          generalize mkS (tgtL ps ql) = tt
          intro HTG HTR HSP
          go_wp2_with fail
          refine HTG.out.mono ?_
          rintro e w3 ⟨rfl, hb3⟩
          have HB3 : Hid (Below w.heap.size w w3) := HB.out.trans (hb3.mono HB.out.size)
          have HO3 := Lib.hid (HO.out.go hb3)
          have HOO3 := Lib.hid (HOO.out.go hb3)
          have HOW3 := Lib.hid (HOW.out.go hb3)
          clear hb3 HO HOO HOW HB HTG
          go_wp2_with fail
          refine (HTR.out _ HO3.out HOW3.out).mono ?_
          rintro e w4 ⟨rfl, hb4⟩
          have HB4 : Hid (Below w.heap.size w w4) := HB3.out.trans (hb4.mono HB3.out.size)
          have HO4 := Lib.hid (HO3.out.go hb4)
          have HOO4 := Lib.hid (HOO3.out.go hb4)
          have HOW4 := Lib.hid (HOW3.out.go hb4)
          clear hb4 HO3 HOO3 HOW3 HB3 HTR
          go_wp2_with fail
          refine (HSP.out _).mono ?_
          rintro e w5 ⟨⟨va, vb, rfl, hoa, hob⟩, hb5⟩
          have HB5 : Hid (Below w.heap.size w w5) := HB4.out.trans (hb5.mono HB4.out.size)
          have HO5 := Lib.hid (HO4.out.go hb5)
          have HOO5 := Lib.hid (HOO4.out.go hb5)
          have HOW5 := Lib.hid (HOW4.out.go hb5)
          obtain ⟨aoa, cpa, hva⟩ := own_lenT hoa
          obtain ⟨aob, cpb, hvb⟩ := own_lenT hob
          subst hva hvb
          have HOA5 := Lib.hid hoa
          have HOB5 := Lib.hid hob
          clear hb5 hoa hob HO4 HOO4 HOW4 HB4 HSP
          have HSM := Lib.hid (same_c _ _ _ _ _ w5 HOB5.out HOW5.out (show ql.length ≤ 50000 by omega))
          simp only at HOA5 HOB5 HSM ⊢
          obtain ⟨pq, hpq'⟩ : ∃ pq, pq = (if ps = [] then [[]] else ps) := ⟨_, rfl⟩
          rw [← hpq'] at HOA5 ⊢
          have HPQ := Lib.hid hpq'
          clear hpq'
          go_wp2_with fail
          refine HSM.out.mono ?_
          rintro e w6 ⟨rfl, hb6⟩
          have HB6 : Hid (Below w.heap.size w w6) := HB5.out.trans (hb6.mono HB5.out.size)
          have HO6 := Lib.hid (HO5.out.go hb6)
          have HOO6 := Lib.hid (HOO5.out.go hb6)
          have HOW6 := Lib.hid (HOW5.out.go hb6)
          have HOA6 := Lib.hid (HOA5.out.go hb6)
          clear hb6 HO5 HOO5 HOW5 HOA5 HOB5 HB5 HSM
          go_wp2
          go_loopw [91] (fun v wr => ∃ k : Nat, k ≤ ql.length ∧ v = .int .i64 k ∧ Below w6.heap.size w6 wr) (fun v _ => ql.length - (intOf v).toNat)
          case atStart => exact ⟨0, by omega, rfl, Below.refl _ _⟩
          case round =>
            rename World => wz
            obtain ⟨k, hk, rfl, hB⟩ := hrel
            have HBZ := Lib.hid hB
            by_cases hlt : k < ql.length
            · obtain ⟨g1, c1, e1, hg1, hc1, hat1⟩ := owp_atT HOW6.out (by omega)
              injection e1 with e1a e1b e1c
              subst e1a e1c
              have p0 := (hB.cell (p := ⟨g1, k * 2, none⟩) hg1).trans (hat1 k hlt).1
              have p1 := (hB.cell (p := ⟨g1, k * 2 + 1, none⟩) hg1).trans (hat1 k hlt).2
              have hk0 : (0 : Int) ≤ (k : Int) := by omega
              have hkl : (k : Int) < (ql.length : Int) := by omega
              have hg1z : g1 < wz.heap.size := Nat.lt_of_lt_of_le hg1 hB.size
              have hg1n : g1 ≠ wz.heap.size := by omega
              clear hB
              obtain ⟨nl, hnl⟩ : ∃ nl, nl = ql[k].1 := ⟨_, rfl⟩
              obtain ⟨nm, hnm⟩ : ∃ nm, nm = mkS nl := ⟨_, rfl⟩
              obtain ⟨vl, hvl⟩ : ∃ vl, vl = mkS ql[k].2 := ⟨_, rfl⟩
              rw [← hnl, ← hnm] at p0
              rw [← hvl] at p1
              obtain ⟨WX, hWX, hkX, hbX⟩ : ∃ WX, WX = wz.alloc (.cells #[.string nm, .string vl] 27) ∧ WX.heap[wz.heap.size]? = some (.cells #[.string nm, .string vl] 27 (0, 0)) ∧ Below wz.heap.size wz WX :=
                ⟨_, rfl, heap_alloc_new wz _, (Below.refl _ _).alloc (Nat.le_refl _) _⟩
              have HWX := Lib.hid hWX
              have HKX := Lib.hid hkX
              have HLX : Hid (wz.heap.size < WX.heap.size) := (Array.getElem?_eq_some_iff.1 hkX).1
              have HBX : Hid (Below w6.heap.size w6 WX) := HBZ.out.trans (hbX.mono HBZ.out.size)
              have HNM := Lib.hid hnm
              have HAT := Lib.hid hat1
              have HDN : Hid (nm.data.toList = nl) := by show _ = _; rw [hnm, data_mkS]
              clear hWX hkX hbX hvl hnm hat1 hnl
              go_wp2
              rw [← HWX.out]
              clear HWX p0 p1
              have HG16 := Lib.hid hg1
              go_loopw [18, 97] (fun nv mv wr => ∃ m : Nat, m ≤ ql.length ∧ mv = .int .i64 m ∧ nv = .int .i64 ((fndL (ql.take m) nl).length : Int) ∧ Below WX.heap.size WX wr) (fun _ mv _ => ql.length - (intOf mv).toNat)
              case atStart => exact ⟨0, by omega, rfl, by rw [List.take_zero]; rfl, Below.refl _ _⟩
              case round =>
                rename World => wy
                obtain ⟨m, hm, rfl, rfl, hB⟩ := hrel
                have HBY := Lib.hid hB
                have HKY : Hid (wy.heap[wz.heap.size]? = some (.cells #[.string nm, .string vl] 27 (0, 0))) := (hB.block _ HLX.out).trans HKX.out
                have HB6Y : Hid (Below w6.heap.size w6 wy) := HBX.out.trans (hB.mono HBX.out.size)
                have x0 : wy.cell? ⟨wz.heap.size, 0, none⟩ = some (.string nm) := by rw [Lib.cell_of_heap HKY.out]; rfl
                have hxl : wz.heap.size < wy.heap.size := (Array.getElem?_eq_some_iff.1 HKY.out).1
                have hxn : wz.heap.size ≠ wy.heap.size := by omega
                clear hB
                by_cases hmt : m < ql.length
                · have q0 := (HB6Y.out.cell (p := ⟨g1, m * 2, none⟩) HG16.out).trans (HAT.out m hmt).1
                  have q1 := (HB6Y.out.cell (p := ⟨g1, m * 2 + 1, none⟩) HG16.out).trans (HAT.out m hmt).2
                  have hm0 : (0 : Int) ≤ (m : Int) := by omega
                  have hml : (m : Int) < (ql.length : Int) := by omega
                  have hgy : g1 < wy.heap.size := Nat.lt_of_lt_of_le HG16.out HB6Y.out.size
                  have hgyn : g1 ≠ wy.heap.size := by omega
                  by_cases hname : ql[m].1 = nl
                  · obtain ⟨hfl, hfe⟩ := fnd_at hmt hname
                    have hfy := fnd_yes hmt hname
                    have hnm2 : mkS ql[m].1 = nm := by rw [hname, HNM.out]
                    rw [hnm2] at q0
                    have HFE := Lib.hid hfe
                    have HFY : Hid ((fndL (ql.take (m + 1)) nl).length = (fndL (ql.take m) nl).length + 1) := by show _ = _; rw [hfy, List.length_append]; rfl
                    have hfq := fnd_len ql nl
                    clear hfe hfy hnm2 hname
                    obtain ⟨yv, hyv⟩ : ∃ yv, yv = mkS ql[m].2 := ⟨_, rfl⟩
                    rw [← hyv] at q1
                    obtain ⟨cn, hcn⟩ : ∃ cn, cn = (fndL (ql.take m) nl).length := ⟨_, rfl⟩
                    obtain ⟨N, hN⟩ : ∃ N, N = (fndL ql nl).length := ⟨_, rfl⟩
                    have HAV : Hid (∀ v W, OwS w6.heap.size v (fndL ql nl) W → ∃ g9 c9, v = .slice (some ⟨g9, 0, none⟩) N c9 ∧ N ≤ c9 ∧ W.cell? ⟨g9, cn, none⟩ = some (.string yv)) := fun v W ho => by
                      obtain ⟨g9, c9, hv9, _, hc9, hat9⟩ := ows_atT ho (by omega)
                      refine ⟨g9, c9, by rw [hN]; exact hv9, by omega, ?_⟩
                      have := hat9 cn (by omega)
                      rw [this, hyv]
                      subst hcn
                      rw [HFE.out]
                    have hcN : cn < N := by omega
                    have hN5 : N ≤ 5 := by omega
                    have HFY2 : Hid ((fndL (ql.take (m + 1)) nl).length = cn + 1) := by show _ = _; rw [HFY.out, hcn]
                    rw [← hcn]
                    have HFD := Lib.hid (fun W (h : OwP 28 w.heap.size (.slice aoo ql.length cpo) ql W) => Find_c (.slice aoo ql.length cpo) ql nm w.heap.size W h (by omega))
                    rw [HDN.out] at HFD
                    clear hcn hN hyv HFY HFE hfl hfq
                    obtain ⟨WY, hWY, hkY, hbY⟩ : ∃ WY, WY = wy.alloc (.cells #[.string nm, .string yv] 27) ∧ WY.heap[wy.heap.size]? = some (.cells #[.string nm, .string yv] 27 (0, 0)) ∧ Below wy.heap.size wy WY :=
                      ⟨_, rfl, heap_alloc_new wy _, (Below.refl _ _).alloc (Nat.le_refl _) _⟩
                    have HWY := Lib.hid hWY
                    have bd0 : Below wy.heap.size wy WY.drew := hbY.drew
                    have HKYX : Hid (WY.drew.heap[wz.heap.size]? = some (.cells #[.string nm, .string vl] 27 (0, 0))) := (bd0.block _ hxl).trans HKY.out
                    have HKYY : Hid (WY.drew.heap[wy.heap.size]? = some (.cells #[.string nm, .string yv] 27 (0, 0))) := hkY
                    have HBYW : Hid (Below WX.heap.size WX WY.drew) := HBY.out.trans (bd0.mono HBY.out.size)
                    have HB6Z : Hid (Below w6.heap.size w6 WY.drew) := HB6Y.out.trans (bd0.mono HB6Y.out.size)
                    have HOOZ := Lib.hid (HOO6.out.go HB6Z.out)
                    have CZ : Hid (WY.drew.cell? ⟨wz.heap.size, 0, none⟩ = some (.string nm) ∧ WY.drew.cell? ⟨wy.heap.size, 1, none⟩ = some (.string yv)) := ⟨by rw [Lib.cell_of_heap HKYX.out]; rfl, by rw [Lib.cell_of_heap HKYY.out]; rfl⟩
                    clear hWY hkY hbY bd0
                    have hd1 : decide ((N : Int) ≤ (cn : Int)) = false := decide_eq_false (by omega)
                    have hd2 : decide (N ≤ cn) = false := decide_eq_false (by omega)
                    have hd3 : ¬ (N : Int) ≤ (cn : Int) := by omega
                    have hd4 : ¬ N ≤ cn := by omega
                    have hcn0 : (0 : Int) ≤ (cn : Int) := by omega
                    have hcnl : (cn : Int) < (N : Int) := by omega
                    go_wp2
                    rw [← HWY.out]
                    clear HWY q0 q1 x0
                    obtain ⟨c0, c1⟩ := CZ.out
                    go_region_with
                      (first
                        | (go_at_call 9; (with_reducible refine (HFD.out WY.drew HOOZ.out).mono ?_); rintro e w7 ⟨v7, rfl, ho7, hb7⟩; have HB7 : Hid (Below w6.heap.size w6 w7) := HB6Z.out.trans (hb7.mono HB6Z.out.size); have HBX7 : Hid (Below WX.heap.size WX w7) := HBYW.out.trans (hb7.mono HBYW.out.size); have HOO7 := Lib.hid (HOO6.out.go HB7.out); have HKX7 : Hid (w7.heap[wz.heap.size]? = some (.cells #[.string nm, .string vl] 27 (0, 0))) := (hb7.block _ (Array.getElem?_eq_some_iff.1 HKYX.out).1).trans HKYX.out; have HKY7 : Hid (w7.heap[wy.heap.size]? = some (.cells #[.string nm, .string yv] 27 (0, 0))) := (hb7.block _ (Array.getElem?_eq_some_iff.1 HKYY.out).1).trans HKYY.out; have C7 : Hid (w7.cell? ⟨wz.heap.size, 0, none⟩ = some (.string nm) ∧ w7.cell? ⟨wy.heap.size, 1, none⟩ = some (.string yv)) := ⟨by rw [Lib.cell_of_heap HKX7.out]; rfl, by rw [Lib.cell_of_heap HKY7.out]; rfl⟩; obtain ⟨g9, c9, rfl, hc9, _⟩ := HAV.out _ _ (World.ownsRow.mono ho7 HB6Z.out.size); obtain ⟨e0, e1⟩ := C7.out; clear ho7 hb7)
                        | (go_at_call 9; (with_reducible refine (HFD.out w7 HOO7.out).mono ?_); rintro e w8 ⟨v8, rfl, ho8, hb8⟩; have HB8 : Hid (Below w6.heap.size w6 w8) := HB7.out.trans (hb8.mono HB7.out.size); have HBX8 : Hid (Below WX.heap.size WX w8) := HBX7.out.trans (hb8.mono HBX7.out.size); have HKX8 : Hid (w8.heap[wz.heap.size]? = some (.cells #[.string nm, .string vl] 27 (0, 0))) := (hb8.block _ (Array.getElem?_eq_some_iff.1 HKX7.out).1).trans HKX7.out; have HKY8 : Hid (w8.heap[wy.heap.size]? = some (.cells #[.string nm, .string yv] 27 (0, 0))) := (hb8.block _ (Array.getElem?_eq_some_iff.1 HKY7.out).1).trans HKY7.out; have C8 : Hid (w8.cell? ⟨wz.heap.size, 0, none⟩ = some (.string nm) ∧ w8.cell? ⟨wy.heap.size, 1, none⟩ = some (.string yv)) := ⟨by rw [Lib.cell_of_heap HKX8.out]; rfl, by rw [Lib.cell_of_heap HKY8.out]; rfl⟩; obtain ⟨g10, c10, rfl, hc10, d10⟩ := HAV.out _ _ (World.ownsRow.mono ho8 HB7.out.size); obtain ⟨f0, f1⟩ := C8.out; clear ho8 hb8))
                    all_goals
                      clear c0 c1 e0 e1 f0 f1 d10
                      go_wp2
                      go_roundw
                      case rel => exact ⟨m + 1, by omega, by go_num, by rw [HFY2.out]; first | rfl | go_num | simp, HBX8.out⟩
                      case measure => simp [intOf]; omega
                  · have hfn := fnd_no hmt hname
                    have he : ((mkS ql[m].1).toList == nm.toList) = false := by rw [Lib.toList_data, Lib.toList_data, data_mkS, HDN.out]; exact beq_eq_false_iff_ne.2 hname
                    have HFN : Hid ((fndL (ql.take (m + 1)) nl).length = (fndL (ql.take m) nl).length) := congrArg List.length hfn
                    clear hfn hname
                    revert q0 q1 he
                    generalize mkS ql[m].1 = ya
                    generalize mkS ql[m].2 = yb
                    intro q0 q1 he
                    have HBA : Hid (Below WX.heap.size WX (wy.alloc (.cells #[.string ya, .string yb] 27))) := HBY.out.alloc HBY.out.size _
                    generalize (fndL (ql.take m) nl).length = cn at HFN ⊢
                    go_wp2
                    go_roundw
                    case rel => exact ⟨m + 1, by omega, by go_num, by rw [HFN.out], HBA.out⟩
                    case measure => simp [intOf]; omega
                · have hme : m = ql.length := by omega
                  subst hme
                  rw [List.take_length]
                  have HFD := Lib.hid (Find_c (.slice aoo ql.length cpo) ql nm w.heap.size wy (HOO6.out.go HB6Y.out) (by omega))
                  rw [HDN.out] at HFD
                  go_wp2_with fail
                  refine HFD.out.mono ?_
                  rintro e w7 ⟨v7, rfl, ho7, hb7⟩
                  obtain ⟨ao7, cp7, hv7⟩ := own_lenT ho7
                  subst hv7
                  have HB7 : Hid (Below w6.heap.size w6 w7) := HB6Y.out.trans (hb7.mono HB6Y.out.size)
                  clear ho7 hb7 HFD
                  generalize (fndL ql nl).length = N
                  go_wp2
                  go_roundw
                  case rel => exact ⟨k + 1, by omega, by go_num, HB7.out⟩
                  case measure => simp [intOf]; omega
            · clear hB
              have HBW : Hid (Below w.heap.size w wz) := HB6.out.trans (HBZ.out.mono HB6.out.size)
              have HAA := Lib.hid (HOA6.out.go HBZ.out)
              have HPP := Lib.hid (HO6.out.go HBZ.out)
              clear HOA6 HO6 HOO6 HOW6 HPM HQM
              cases ps with
              | nil =>
                have hq : pq = [[]] := HPQ.out
                subst hq
                obtain ⟨g2, c2, e2, hg2, hc2, hat2⟩ := ows_atT HAA.out (by decide)
                injection e2 with e2a e2b e2c
                subst e2a e2c
                have q0 : wz.cell? ⟨g2, 0, none⟩ = some (.string ⟨#[]⟩) := hat2 0 (by decide)
                clear hat2 e2b
                go_wp2_with (go_at_call 10; refine (awake_c _).mono ?_; rintro e w9 ⟨rfl, hb9⟩; have HB9 := Lib.hid hb9; clear hb9)
                go_ret
                exact ⟨rfl, HBW.out.trans (HB9.out.mono HBW.out.size)⟩
              | cons p0 pr =>
                have hq : pq = p0 :: pr := HPQ.out
                subst hq
                have hpos : 0 < (p0 :: pr).length := by simp
                clear HPQ
                generalize p0 :: pr = ps at *
                have hps0 : ¬ ps.length = 0 := by omega
                have hps1 : ((ps.length : Int) == 0) = false := beq_eq_false_iff_ne.2 (by omega)
                go_wp2
                go_loopw [158] (fun v wr => ∃ j : Nat, j ≤ ps.length ∧ v = .int .i64 j ∧ Below wz.heap.size wz wr) (fun v _ => ps.length - (intOf v).toNat)
                case atStart => exact ⟨0, by omega, rfl, Below.refl _ _⟩
                case round =>
                  rename World => wt
                  obtain ⟨j, hj, rfl, hB⟩ := hrel
                  by_cases hjt : j < ps.length
                  · obtain ⟨g1, c1, e1, hg1, hc1, hat1⟩ := ows_atT HAA.out (by omega)
                    obtain ⟨g2, c2, e2, hg2, hc2, hat2⟩ := ows_atT HPP.out (by omega)
                    injection e1 with e1a e1b e1c
                    injection e2 with e2a e2b e2c
                    subst e1a e2a e1c e2c
                    have p0 : wt.cell? ⟨g1, j, none⟩ = some (.string (mkS ps[j])) := (hB.cell (p := ⟨g1, j, none⟩) hg1).trans (hat1 j hjt)
                    have r0 : wt.cell? ⟨g2, j, none⟩ = some (.string (mkS ps[j])) := (hB.cell (p := ⟨g2, j, none⟩) hg2).trans (hat2 j hjt)
                    have HB := Lib.hid hB
                    clear hB hat1 hat2
                    revert p0 r0
                    generalize mkS ps[j] = xx
                    intro p0 r0
                    have hj0 : (0 : Int) ≤ (j : Int) := by omega
                    have hjl : (j : Int) < (ps.length : Int) := by omega
                    go_wp2
                    go_quiet (fail)
                    go_wp2
                    go_roundw
                    case rel => exact ⟨j + 1, by omega, by go_num, bdrw HB.out _⟩
                    case measure => simp [intOf]; omega
                  · have HB : Hid (Below w.heap.size w wt) := HBW.out.trans (hB.mono HBW.out.size)
                    clear hB
                    go_wp2_with (go_at_call 10; refine (awake_c _).mono ?_; rintro e w9 ⟨rfl, hb9⟩; have HB9 := Lib.hid hb9; clear hb9)
                    go_ret
                    exact ⟨rfl, HB.out.trans (HB9.out.mono HB.out.size)⟩
end Go.Proofs.YtflhapnanhbcgaaDoor.Pc
