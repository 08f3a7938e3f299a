/- The document's Compact, at every rising row of versions that can be read; no other condition. -/
import Derived.Test.YtfilammedofdoaaCnK
namespace Go.Proofs.Ytfilammedofdoaa.Cn
open Go.RowKit Go.Lib Go.Shelf Go.Sort
set_option linter.unusedSimpArgs false
set_option linter.unusedVariables false

theorem own_lenV {T : TypeId} {B k n : Nat} {v : Value} {xs : List Value} {w : World} (h : w.ownsRow B T k v n xs) : ∃ ao cap, v = .slice ao n cap := by
  rcases own_slV h with ⟨e, h0⟩ | ⟨g, cp, e, _⟩
  · exact ⟨none, 0, by rw [e, h0]⟩
  · exact ⟨_, _, e⟩
set_option maxRecDepth 100000 in
set_option maxHeartbeats 4000000 in
theorem CompactR_c (ao : Option Addr) (cap : Nat) (l : List Ver) (rev : Int) (w : World) (hR : RdV (.slice ao l.length cap) l w) (ha : Asc l) (hm : l.length ≤ 1000000) :
    Calls Try.prog 19 #[.slice ao l.length cap, .int .i64 rev] w fun e w' => ∃ v, e = .returned v ∧ OwV 27 w.heap.size v (cmp l rev) w' ∧ Below w.heap.size w w' := by
  obtain ⟨i0, hi, hz0, hz1, hz2⟩ := info_parts infoR
  have HR := Lib.hid hR
  have HA := Lib.hid ha
  have HCM : Hid (cmp l rev = l.drop (spr l rev)) := rfl
  clear hR ha
  rw [HCM.out]
  clear HCM
  go_enter Try.func19, Try.ntmps19
  go_wp2
  go_loopw [5, 11] (fun ov iv wr => ∃ j : Nat, j ≤ l.length ∧ iv = .int .i64 j ∧ Hid (OwV 27 w.heap.size ov ((l.take j).drop (spr l rev)) wr) ∧ Hid (Below w.heap.size w wr)) (fun _ iv _ => l.length - (intOf iv).toNat)
  case atStart =>
    refine ⟨0, by omega, rfl, ?_, Lib.hid (Below.refl _ _)⟩
    show OwV _ _ _ _ _
    rw [List.take_zero, List.drop_nil]
    exact World.ownsRow_nil _ _ _ _
  case round =>
    obtain ⟨j, hj, rfl, HO, HB⟩ := hrel
    obtain ⟨aov, cpv, hv⟩ := own_lenV HO.out
    subst hv
    by_cases hlt : j < l.length
    · obtain ⟨g, off, hao, hg, hat⟩ := rdv_at (HR.out.go HB.out) (by omega)
      subst hao
      obtain ⟨p0, p1, p2⟩ := hat j hlt
      have hsi := spr_le_iff (rev := rev) hlt
      have hj0 : (0 : Int) ≤ (j : Int) := by omega
      have hjl : (j : Int) < (l.length : Int) := by omega
      have HST : Hid ((l.take (j + 1)).drop (spr l rev) = (l.take j).drop (spr l rev) ++ (if spr l rev ≤ j then [l[j]] else [])) := cmp_take hlt
      have hln : ((l.take j).drop (spr l rev)).length ≤ 1000000 := by rw [List.length_drop, List.length_take]; omega
      clear hat
      obtain ⟨⟨x1, x2, x3⟩, hx⟩ : ∃ x : Ver, l[j] = x := ⟨_, rfl⟩
      rw [hx] at p0 p1 p2 hsi HST
      simp only at p0 p1 p2 hsi
      clear hx
      obtain ⟨W1, hW1, hk1, hb1⟩ := new3 wr (.int .i64 x1) (.string x2) (.bool x3) 27
      have HC1 := Lib.hid (Counts_c _ cap l rev W1 ((HR.out.go HB.out).go hb1) HA.out hm)
      have HB1 : Hid (Below w.heap.size w W1) := HB.out.trans (hb1.mono HB.out.size)
      have HO1 := Lib.hid (HO.out.go hb1)
      have HW1 := Lib.hid hW1
      have HK1 := Lib.hid hk1
      have hgn : g ≠ wr.heap.size := by omega
      have hlt1 : wr.heap.size < W1.heap.size := (Array.getElem?_eq_some_iff.1 hk1).1
      clear hW1 hk1 hb1 HO
      by_cases hsp : spr l rev ≤ j
      · rw [if_pos hsp] at HST
        have hsi := hsi.1 hsp
        revert HO1 HST hln
        generalize (l.take j).drop (spr l rev) = acc
        intro hln HST HO1
        revert hsi HC1
        generalize (((cnt l rev : Nat) : Int) - 1) = kk
        intro HC1 hsi
        by_cases hkj : kk < j
        · clear hsi
          go_wp2_with fail
          rw [← HW1.out]
          refine HC1.out.mono ?_
          rintro e w2 ⟨rfl, hb2⟩
          have HB2 : Hid (Below w.heap.size w w2) := HB1.out.trans (hb2.mono HB1.out.size)
          have HK2 := Lib.hid ((hb2.block _ hlt1).trans HK1.out)
          obtain ⟨d0, d1, d2⟩ := cells3 HK2.out
          obtain ⟨W3, hW3, hk3, hb3⟩ := new3 w2 (.int .i64 x1) (.string x2) (.bool x3) 27
          have HW3 := Lib.hid hW3
          have HO3 := Lib.hid ((HO1.out.go hb2).go hb3)
          have HB3 : Hid (Below w.heap.size w W3) := HB2.out.trans (hb3.mono HB2.out.size)
          have DC := Lib.hid (enc_cell hk3)
          have D3 : Hid (acc.length + 1 ≤ maxLen) := by show _ ≤ _; unfold maxLen; omega
          have D4 : Hid ((acc.length + 1) * 32 ≤ 140737488355328) := by show _ ≤ _; omega
          have E1 : Hid (w.heap.size ≤ W3.heap.size) := HB3.out.size
          clear hW3 hk3 hb3 hb2 HO1
          go_wp2_with (at_builtin; rw [← HW3.out]; refine wpList_append_own _ rfl _ _ 25 rfl w.heap.size 27 i0 _ 3 32 Try.underlying25 hi hz0 hz1 hz2 rfl (by decide) _ _ _ rfl HO3.out ⟨w2.heap.size, 0, none⟩ 1 1 (encV (x1, x2, x3)) rfl rfl DC.out (enc_ok _) D3.out D4.out E1.out ?_)
          intro v1 V1 hown1 hgrow1 _
          have HBV : Hid (Below w.heap.size w V1) := HB3.out.grown hgrow1 HB3.out.size (fun k hk => (HO3.out.lt k hk).1)
          have HOV : Hid (OwV 27 w.heap.size v1 ((l.take (j + 1)).drop (spr l rev)) V1) := by
            show World.ownsRow _ _ _ _ _ _ _
            rw [HST.out, vC_snoc, List.length_append]; exact hown1
          clear hown1 hgrow1
          go_wp2
          go_roundw
          case rel => exact ⟨j + 1, by omega, by go_num, HOV, HBV⟩
          case measure => simp [intOf]; omega
        · have hkj2 : kk = j ∧ x3 = false := by
            rcases hsi with h | h
            · exact absurd h hkj
            · exact ⟨h.1.symm, h.2⟩
          obtain ⟨rfl, rfl⟩ := hkj2
          clear hsi
          go_wp2_with fail
          rw [← HW1.out]
          refine HC1.out.mono ?_
          rintro e w2 ⟨rfl, hb2⟩
          have HB2 : Hid (Below w.heap.size w w2) := HB1.out.trans (hb2.mono HB1.out.size)
          have HK2 := Lib.hid ((hb2.block _ hlt1).trans HK1.out)
          obtain ⟨d0, d1, d2⟩ := cells3 HK2.out
          obtain ⟨W3, hW3, hk3, hb3⟩ := new3 w2 (.int .i64 x1) (.string x2) (.bool false) 27
          have HW3 := Lib.hid hW3
          have HO3 := Lib.hid ((HO1.out.go hb2).go hb3)
          have HB3 : Hid (Below w.heap.size w W3) := HB2.out.trans (hb3.mono HB2.out.size)
          have DC := Lib.hid (enc_cell hk3)
          have D3 : Hid (acc.length + 1 ≤ maxLen) := by show _ ≤ _; unfold maxLen; omega
          have D4 : Hid ((acc.length + 1) * 32 ≤ 140737488355328) := by show _ ≤ _; omega
          have E1 : Hid (w.heap.size ≤ W3.heap.size) := HB3.out.size
          clear hW3 hk3 hb3 hb2 HO1
          go_wp2_with (at_builtin; rw [← HW3.out]; refine wpList_append_own _ rfl _ _ 25 rfl w.heap.size 27 i0 _ 3 32 Try.underlying25 hi hz0 hz1 hz2 rfl (by decide) _ _ _ rfl HO3.out ⟨w2.heap.size, 0, none⟩ 1 1 (encV (x1, x2, false)) rfl rfl DC.out (enc_ok _) D3.out D4.out E1.out ?_)
          intro v1 V1 hown1 hgrow1 _
          have HBV : Hid (Below w.heap.size w V1) := HB3.out.grown hgrow1 HB3.out.size (fun k hk => (HO3.out.lt k hk).1)
          have HOV : Hid (OwV 27 w.heap.size v1 ((l.take (j + 1)).drop (spr l rev)) V1) := by
            show World.ownsRow _ _ _ _ _ _ _
            rw [HST.out, vC_snoc, List.length_append]; exact hown1
          clear hown1 hgrow1
          go_wp2
          go_roundw
          case rel => exact ⟨j + 1, by omega, by go_num, HOV, HBV⟩
          case measure => simp [intOf]; omega
      · rw [if_neg hsp, List.append_nil] at HST
        have hsi2 : ¬ (((cnt l rev : Nat) : Int) - 1 < j) ∧ ¬ ((j : Int) = ((cnt l rev : Nat) : Int) - 1 ∧ x3 = false) := ⟨fun h => hsp (hsi.2 (.inl h)), fun h => hsp (hsi.2 (.inr h))⟩
        clear hsi
        revert HO1 HST hln
        generalize (l.take j).drop (spr l rev) = acc
        intro hln HST HO1
        revert hsi2 HC1
        generalize (((cnt l rev : Nat) : Int) - 1) = kk
        intro HC1 hsi2
        have hkj := hsi2.1
        by_cases hkj2 : (j : Int) = kk
        · have hx3 : x3 = true := by
            cases x3
            · exact absurd ⟨hkj2, rfl⟩ hsi2.2
            · rfl
          subst hkj2 hx3
          clear hsi2
          go_wp2_with fail
          rw [← HW1.out]
          refine HC1.out.mono ?_
          rintro e w2 ⟨rfl, hb2⟩
          have HB2 : Hid (Below w.heap.size w w2) := HB1.out.trans (hb2.mono HB1.out.size)
          have HO2 : Hid (OwV 27 w.heap.size (.slice aov acc.length cpv) ((l.take (j + 1)).drop (spr l rev)) w2) := by
            show OwV _ _ _ _ _
            rw [HST.out]; exact HO1.out.go hb2
          have HK2 := Lib.hid ((hb2.block _ hlt1).trans HK1.out)
          obtain ⟨d0, d1, d2⟩ := cells3 HK2.out
          clear hb2 HO1
          go_wp2
          go_roundw
          case rel => exact ⟨j + 1, by omega, by go_num, HO2, HB2⟩
          case measure => simp [intOf]; omega
        · clear hsi2
          go_wp2_with fail
          rw [← HW1.out]
          refine HC1.out.mono ?_
          rintro e w2 ⟨rfl, hb2⟩
          have HB2 : Hid (Below w.heap.size w w2) := HB1.out.trans (hb2.mono HB1.out.size)
          have HO2 : Hid (OwV 27 w.heap.size (.slice aov acc.length cpv) ((l.take (j + 1)).drop (spr l rev)) w2) := by
            show OwV _ _ _ _ _
            rw [HST.out]; exact HO1.out.go hb2
          have HK2 := Lib.hid ((hb2.block _ hlt1).trans HK1.out)
          obtain ⟨d0, d1, d2⟩ := cells3 HK2.out
          clear hb2 HO1
          go_wp2
          go_roundw
          case rel => exact ⟨j + 1, by omega, by go_num, HO2, HB2⟩
          case measure => simp [intOf]; omega
    · have hjl : ¬ (j : Int) < (l.length : Int) := by omega
      have HOE : Hid (OwV 27 w.heap.size (.slice aov ((l.take j).drop (spr l rev)).length cpv) (l.drop (spr l rev)) wr) := by
        show OwV _ _ _ _ _
        have := HO.out
        rw [show l.take j = l from List.take_of_length_le (by omega)] at this ⊢
        exact this
      clear HO
      revert HOE
      generalize ((l.take j).drop (spr l rev)).length = q
      intro HOE
      go_wp2
      go_ret
      exact ⟨_, rfl, HOE.out, HB.out⟩
end Go.Proofs.Ytfilammedofdoaa.Cn
