/- The contract of package chain's Compact: at every chain of the call's own; no other condition. -/
import Derived.Test.YthioghbifpphiaaCnI
namespace Go.Proofs.Ythioghbifpphiaa.Cn
open Go.RowKit Go.Lib Go.Shelf Go.Sort
set_option linter.unusedSimpArgs false
set_option linter.unusedVariables false

/-- the chain's row wiped -/
theorem own_wipe {B g k s cap : Nat} {all : List Ver} {W : World} (h : OwV 78 B (.slice (some ⟨g, 0, none⟩) all.length cap) all W) (hks : k + s ≤ all.length) (hs : 0 < s) :
    ∃ W', (∀ ty c2, (Builtin.clear_ #[99] ty #[.slice (some ⟨g, k * 3, none⟩) s c2]).run Try.prog W = .ok (.tuple #[]) W') ∧ OwV 78 B (.slice (some ⟨g, 0, none⟩) all.length cap) (wipe all k s) W' ∧ (W'.os = W.os ∧ W'.tape = W.tape ∧ W'.output = W.output ∧ W'.heap.size = W.heap.size) ∧ ∀ q, q ≠ g → W'.heap[q]? = W.heap[q]? := by
  obtain ⟨hl, h⟩ := h
  rcases h with ⟨h, _⟩ | ⟨g', cap', cur, hv, hb, hgh, hn, hm, hz, htk⟩
  · cases h
  · injection hv with h1 h2 h3
    injection h1 with h1
    injection h1 with h1
    subst h1 h3
    refine ⟨W.setRow g (cur.toList.take (k * 3) ++ vC (List.replicate s zeroV) ++ cur.toList.drop (k * 3 + s * 3)).toArray, fun ty c2 => run_clear W ty g k s c2 cur hs hgh (by omega), ?_, ⟨rfl, rfl, rfl, by simp [World.setRow]⟩, fun q hq => setRow_other W g q _ hq⟩
    show World.ownsRow _ _ _ _ _ _ _
    rw [wipe_len hks]
    refine ⟨by rw [vC_len, wipe_len hks], .inr ⟨g, cap, _, rfl, hb, setRow_heap W g _ _ _ _ hgh, hn, hm, ?_, ?_⟩⟩
    · have e1 : cur.toList.length = cap * 3 := by rw [Array.length_toList, hz]
      simp only [List.size_toArray, List.length_append, List.length_take, List.length_drop, vC_len, List.length_replicate, e1]
      omega
    · exact wipe_cells hks htk
theorem Chg.tr {c : Nat} {gb : Option Nat} {a b d : World} (h : Chg c gb a b) (k : Chg c gb b d) : Chg c gb a d := h.trans (.inl rfl) k
theorem Chg.set {c : Nat} {gb : Option Nat} (W : World) (i : Nat) (u : Value) : Chg c gb W (W.setCell ⟨c, i, none⟩ u) :=
  ⟨rfl, rfl, rfl, by simp [World.setCell], fun q _ hc _ => Below.heap_setCell _ _ _ _ hc⟩
theorem blk2 {w : World} {c : Nat} {a b : Value} {t : TypeId} (h : w.heap[c]? = some (.cells #[a, b] t (0, 0))) (i : Nat) (hi : i = 0 ∨ i = 1) (u : Value) : (w.setCell ⟨c, i, none⟩ u).heap[c]? = some (.cells (if i = 0 then #[u, b] else #[a, u]) t (0, 0)) := by
  have := blk_set h i u
  rcases hi with rfl | rfl
  · simpa using this
  · simpa using this
set_option maxRecDepth 100000 in
set_option maxHeartbeats 4000000 in
theorem Compact_c (B c N : Nat) (gb : Option Nat) (l : List Ver) (rev : Int) (w : World) (h : IsCh B c N gb l w) (hN : N ≤ 1000000) (hB : B ≤ w.heap.size) (ha : Asc l) :
    Calls Try.prog 36 #[.pointer (some ⟨c, 0, none⟩), .int .i64 rev] w (PtQ B c N gb (cmp l rev) (spr l rev : Nat) w) := by
  obtain ⟨i0, hi, hz0, hz1, hz2⟩ := info_parts infoC
  have HS := Lib.hid (Spare_c B c N gb l rev w h hN ha)
  have HC : Hid (cmp l rev = l.drop (spr l rev)) := rfl
  have hsl : spr l rev ≤ l.length := Nat.le_trans (spr_le l rev) (cnt_le l rev)
  rw [HC.out]
  have H := Lib.hid h
  clear h HC ha
  revert HS hsl
  generalize spr l rev = s
  intro HS hsl
  by_cases hs0 : s = 0
  · subst hs0
    rw [List.drop_zero]
    go_enter Try.func36, Try.ntmps36
    go_wp2_with fail
    refine HS.out.mono ?_
    rintro e w1 ⟨rfl, hb1⟩
    have HB1 := Lib.hid hb1
    clear hb1
    go_wp2
    go_ret
    exact ptq_same H.out HB1.out rfl
  · have hs1 : 0 < s := by omega
    go_enter Try.func36, Try.ntmps36
    go_wp2_with fail
    refine HS.out.mono ?_
    rintro e w1 ⟨rfl, hb1⟩
    have HB1 := Lib.hid hb1
    obtain ⟨sv, all, k, g1, g2, g3, g4, g5, g6⟩ := H.out.go hb1
    have hll : l.length = all.length - k := by rw [← g4, List.length_drop]
    clear hb1
    rcases own_slV g6 with ⟨rfl, h0⟩ | ⟨g, cap, rfl, hn, hm, hg⟩
    · omega
    · have c0 := cell_of_row _ _ 0 _ _ _ g5
      have c1 := cell_of_row _ _ 1 _ _ _ g5
      simp at c0 c1
      have HK := Lib.hid (kept_own c g all.length cap k w1 c0 c1 g2 hn hm)
      have HG5 := Lib.hid g5
      have HO := Lib.hid g6
      have G1 := Lib.hid g1
      have G4 := Lib.hid g4
      have HLL := Lib.hid hll
      have hks : k + s ≤ all.length := by omega
      have hsi : (s : Int) ≤ ((all.length - k : Nat) : Int) := by omega
      have hsz : ¬ (s : Int) = 0 := by omega
      have hs00 : (0 : Int) ≤ (s : Int) := by omega
      have hcap : (s : Int) ≤ ((cap - k : Nat) : Int) := by omega
      unfold maxLen at hm
      clear g1 g4 g5 g6 hll c0 c1 hs0
      go_wp2_with fail
      refine HK.out.mono ?_
      rintro e w2 ⟨off, rfl, ho, n2, rfl⟩
      obtain rfl : off = k * 3 := ho (by omega)
      have HB2 : Hid (Below w1.heap.size w1 (w1.drewN n2)) := bdrN w1 n2
      obtain ⟨WC, hcl, hoc, ⟨hos, htp, hou, hsc⟩, hoth⟩ := own_wipe (HO.out.go HB2.out) hks hs1
      have HOC := Lib.hid hoc
      have HOT := Lib.hid hoth
      have HOS := Lib.hid hos
      have HTP := Lib.hid htp
      have HOU := Lib.hid hou
      have HSC := Lib.hid hsc
      have hcg : c ≠ g := by
        intro e
        have := own_ne HO.out HG5.out (by decide)
        exact this (by rw [e]; rfl)
      have hcC : WC.heap[c]? = some (.cells #[.slice (some ⟨g, 0, none⟩) all.length cap, .int .i64 (k : Int)] 108 (0, 0)) := (HOT.out c hcg).trans HG5.out
      have HCH1 : Hid (Chg c gb w WC) := by
        refine Chg.tr (Chg.of HB1.out) ⟨HOS.out, HTP.out, HOU.out, Nat.le_of_eq HSC.out.symm, fun q hq hqc hqg => HOT.out q (fun e => hqg ?_)⟩
        rw [e]; exact G1.out
      obtain ⟨W2, hW2, hk2⟩ : ∃ W2, W2 = WC.setCell ⟨c, 1, none⟩ (.int .i64 ((k : Int) + (s : Int))) ∧ W2.heap[c]? = some (.cells #[.slice (some ⟨g, 0, none⟩) all.length cap, .int .i64 ((k : Int) + (s : Int))] 108 (0, 0)) := ⟨_, rfl, by simpa using blk2 hcC 1 (.inr rfl) (.int .i64 ((k : Int) + (s : Int)))⟩
      have HCH2 : Hid (Chg c gb w W2) := by
        refine Chg.tr HCH1.out ?_
        rw [hW2]; exact Chg.set _ _ _
      have HO2 : Hid (OwV 78 B (.slice (some ⟨g, 0, none⟩) all.length cap) (wipe all k s) W2) := by
        show World.ownsRow _ _ _ _ _ _ _
        rw [hW2]; exact own_set HOC.out hcC (by decide) _ _
      obtain ⟨p, hp⟩ : ∃ p, p = all.length - (k + s) := ⟨_, rfl⟩
      have hD : (wipe all k s).drop (k + s) = l.drop s := by rw [wipe_drop hks, ← List.drop_drop, G4.out]
      have hpl : (l.drop s).length = p := by rw [List.length_drop]; have := HLL.out; omega
      have HK2 := Lib.hid (kept_own c g all.length cap (k + s) W2 (by have := cell_of_row _ _ 0 _ _ _ hk2; simpa using this) (by have := cell_of_row _ _ 1 _ _ _ hk2; simpa using this) hks hn (by unfold maxLen; omega))
      rw [← hp] at HK2
      have x0 := cell_of_row _ _ 0 _ _ _ hk2
      have x1 := cell_of_row _ _ 1 _ _ _ hk2
      simp at x0 x1
      have y0 := frz hk2 0
      have y1 := frz hk2 1
      have z1 := cell_of_row _ _ 1 _ _ _ hcC
      simp at z1
      have v1 := frz hcC 1
      have HK5 := Lib.hid hk2
      have HW2 := Lib.hid hW2
      have HD := Lib.hid hD
      have HP := Lib.hid hp
      have HPL := Lib.hid hpl
      have hkN : k + s ≤ 1000000 := by omega
      have hpN : p ≤ 1000000 := by omega
      clear ho hoc hoth hos htp hou hsc HK hcC hW2 hk2 hD hp hpl
      go_wp2_with fail
      rw [← HW2.out]
      (with_reducible refine HK2.out.mono ?_)
      rintro e w3 ⟨off, rfl, ho, n3, rfl⟩
      have HB3 : Hid (Below W2.heap.size W2 (W2.drewN n3)) := bdrN W2 n3
      have HR3 : Hid (RdV (.slice (some ⟨g, off, none⟩) p (cap - (k + s))) (l.drop s) (W2.drewN n3)) := by
        show RdV _ _ _
        by_cases h0 : p = 0
        · have hl0 : l.drop s = [] := List.eq_nil_of_length_eq_zero (by rw [HPL.out, h0])
          rw [hl0, h0]; exact rdv_nil _ _ _
        · have hof : off = (k + s) * 3 := ho (by have := HP.out; omega)
          have hr := (OwV.drop (by have := HO2.out; rw [← wipe_len hks] at this; exact this) (k + s) (by rw [wipe_len hks]; exact hks) (cap - (k + s)) : RdV (.slice (some ⟨g, (k + s) * 3, none⟩) ((wipe all k s).length - (k + s)) (cap - (k + s))) ((wipe all k s).drop (k + s)) W2)
          rw [HD.out, wipe_len hks, ← HP.out] at hr
          rw [hof]; exact hr.go HB3.out
      clear ho HK2
      by_cases hle : p ≤ k + s
      · have hle1 : (p : Int) ≤ (k : Int) + (s : Int) := by omega
        have D1 : Hid ((vC (l.drop s)).length = p * 3) := by show _ = _; rw [vC_len, HPL.out]
        have D2 := Lib.hid (vC_one (l.drop s))
        have D3 : Hid (0 + p ≤ maxLen) := by show _ ≤ _; unfold maxLen; omega
        have D4 : Hid ((0 + p) * 32 ≤ 140737488355328) := by show _ ≤ _; omega
        have HC3 := Lib.hid (rdv_cells HR3.out)
        go_wp2_with (at_builtin; refine wpList_append_own _ rfl _ _ 99 rfl (W2.drewN n3).heap.size 78 i0 _ 3 32 Try.underlying99 hi hz0 hz1 hz2 rfl (by decide) _ _ _ rfl (World.ownsRow_nil _ _ _ _) ⟨g, off, none⟩ p (cap - (k + s)) (vC (l.drop s)) rfl D1.out HC3.out D2.out D3.out D4.out (Nat.le_refl _) ?_)
        intro v' V hown hgrow _
        have hcV : V.heap[c]? = some (.cells #[.slice (some ⟨g, 0, none⟩) all.length cap, .int .i64 ((k : Int) + (s : Int))] 108 (0, 0)) := by
          have h3 : (W2.drewN n3).heap[c]? = _ := HK5.out
          exact (hgrow.block _ (Array.getElem?_eq_some_iff.1 h3).1 (fun e => by cases e)).trans h3
        have HBV : Hid (Below (W2.drewN n3).heap.size (W2.drewN n3) V) := ⟨hgrow.os, hgrow.tape, hgrow.output, hgrow.size, fun q hq => hgrow.block q hq (fun e => by cases e)⟩
        have HOV : Hid (V.ownsRow (W2.drewN n3).heap.size 78 3 v' p (vC (l.drop s))) := by
          show World.ownsRow _ _ _ _ _ _ _
          simpa using hown
        obtain ⟨ao', cap', hv'⟩ : ∃ ao' cap', v' = .slice ao' p cap' := by
          rcases own_slV HOV.out with ⟨e, h0⟩ | ⟨g', cp, e, _⟩
          · exact ⟨none, 0, by rw [e, h0]⟩
          · exact ⟨_, _, e⟩
        subst hv'
        have q0 := frz hcV 0
        have q1 := frz hcV 1
        have r0 := cell_of_row _ _ 0 _ _ _ hcV
        have r1 := cell_of_row _ _ 1 _ _ _ hcV
        simp at r0 r1
        have HCV := Lib.hid hcV
        clear hown hgrow hcV
        go_wp2
        go_ret
        have e1 := blk2 HCV.out 0 (.inl rfl) (.slice ao' p cap')
        have e2 := blk2 (by simpa using e1) 1 (.inr rfl) (.int .i64 0)
        have o1 := own_set HOV.out HCV.out (by decide) 0 (.slice ao' p cap')
        have o2 := own_set o1 (by simpa using e1) (by decide) 1 (.int .i64 0)
        have o3 : OwV 78 (W2.drewN n3).heap.size (.slice ao' p cap') (l.drop s) ((V.setCell ⟨c, 0, none⟩ (.slice ao' p cap')).setCell ⟨c, 1, none⟩ (.int .i64 0)) := by
          show World.ownsRow _ _ _ _ _ _ _
          rw [HPL.out]; exact o2
        have hs3 : w.heap.size ≤ (W2.drewN n3).heap.size := HCH2.out.size
        refine ⟨rfl, _, ⟨.slice ao' p cap', l.drop s, 0, rfl, Nat.zero_le _, ?_, rfl, by simpa using e2, ?_⟩, ((HCH2.out.tr (Chg.of HB3.out)).tr (Chg.of HBV.out)).tr ((Chg.set _ _ _).tr (Chg.set _ _ _)), ?_⟩
        · rw [HPL.out, HP.out]; omega
        · exact o3.mono (B' := B) (by omega)
        · rcases own_slV HOV.out with ⟨e, _⟩ | ⟨g', cp, e, _⟩
          · rw [e]; exact .inr (.inl rfl)
          · have := HOV.out.lt g' (by rw [e]; rfl)
            rw [e]; exact .inr (.inr ⟨g', rfl, by omega⟩)
      · have hle1 : ¬ (p : Int) ≤ (k : Int) + (s : Int) := by omega
        go_wp2
        go_ret
        refine ⟨rfl, gb, ⟨.slice (some ⟨g, 0, none⟩) all.length cap, wipe all k s, k + s, G1.out, by rw [wipe_len hks]; exact hks, by rw [wipe_len hks]; exact g3, HD.out, ?_, ?_⟩, HCH2.out.tr (Chg.of HB3.out), .inl rfl⟩
        · have := HK5.out
          rw [Int.natCast_add]; exact this
        · exact (HO2.out.go HB3.out)
end Go.Proofs.Ythioghbifpphiaa.Cn
