/- The law JvalBlanks answers yes, where what is laid lies. -/
import Derived.Test.YtkphainopofejaaDoorJvGh
import Derived.Test.YtkphainopofejaaDoorJvBlk
namespace Go.Proofs.YtkphainopofejaaDoor.Jv
open Jt
open Go.RowKit Go.ChangeMaps Go.MapKept Go.WideMaps
set_option linter.unusedSimpArgs false
set_option linter.unusedVariables false

theorem cat_ar (s : ByteArray) : ((ByteArray.mk #[32, 10] ++ s) ++ ByteArray.mk #[9, 13]).data.toList = arnd s.data.toList := by
  simp [arnd, bh]
set_option maxRecDepth 100000 in
set_option maxHeartbeats 2000000 in
theorem blanks_law (x0 : ByteArray) (d : Int) (w : World) (hx : x0.size ≤ maxLen) (hE : Env w) :
    Calls Tryd.prog 6 #[.string x0, .int .i64 d] w fun e w' => e = .returned (.bool true) ∧ Below w.heap.size w w' := by
  unfold maxLen at hx
  have HE := Lib.hid hE
  by_cases hbg : 150 < x0.size
  · obtain ⟨s, hs⟩ : ∃ s, s = x0.extract 0 150 := ⟨_, rfl⟩
    have hsz : s.size ≤ 150 := by rw [hs, ByteArray.size_extract]; omega
    have HXS := Lib.hid hs
    have h150 : (150 : Int) < (x0.size : Int) := by omega
    have HP := Lib.hid (Parse_c s d w hE (by omega))
    clear hs hE
    go_enter Tryd.func6, Tryd.ntmps6
    go_wp2_with fail
    rw [← HXS.out]
    clear HXS h150
    (with_reducible refine HP.out.mono ?_)
    rintro e w1 ⟨xk, xb, xn, xt, xo, xl, xq, yo, yl, yq, rfl, hrep, hb1⟩
    obtain ⟨W1, hW1, hk1, hc1⟩ := one_v6 w1 xk xb xn xt xo xl xq yo yl yq
    have HW1 := Lib.hid hW1
    have HK1 := Lib.hid hk1
    have HB1 := Lib.hid (btr hb1 hc1)
    have HR1 := Lib.hid (Rep.keep (Kep.of hc1) _ hrep)
    have hsl := size_l s
    have HWD := Lib.hid (parse_wid s.data.toList d)
    have HSH := Lib.hid (parse_ar s.data.toList d)
    rw [← hsl] at HWD HSH
    have hcat : ((ByteArray.mk #[32, 10] ++ s) ++ ByteArray.mk #[9, 13]).data.toList = arnd s.data.toList := cat_ar s
    obtain ⟨s2, hs2⟩ : ∃ s2, s2 = (ByteArray.mk #[32, 10] ++ s) ++ ByteArray.mk #[9, 13] := ⟨_, rfl⟩
    rw [← hs2] at hcat
    have hz2 : s2.size = s.size + 4 := by rw [size_l s2, hcat, arnd_len, ← hsl]
    have HP2 := Lib.hid (Parse_c s2 d W1 (HE.out.go HB1.out) (by omega))
    have HWD2 := Lib.hid (parse_wid s2.data.toList d)
    rw [hcat, arnd_len, ← hsl] at HWD2
    rw [hcat] at HP2
    have HS2 := Lib.hid hs2
    clear hrep hb1 hW1 hk1 hc1 HP hsl hcat hz2 hs2
    revert HR1 HWD HSH HP2 HWD2
    generalize parseP s.data.toList d = R
    generalize parseP (arnd s.data.toList) d = R2
    obtain ⟨v, p, er⟩ := R
    obtain ⟨v2, p2, er2⟩ := R2
    unfold PaQ
    intro HR1 HWD HSH HP2 HWD2
    simp only at HR1 HWD HSH HP2 HWD2 ⊢
    go_upto_region 4 with (fail)
    rw [← HW1.out]
    go_wp2_with fail
    rw [← HS2.out]
    (with_reducible refine HP2.out.mono ?_)
    rintro e w2 ⟨zk, zb, zn, zt, zo, zl, zq, uo, ul, uq, rfl, hrep2, hb2⟩
    obtain ⟨W2, hW2, hk2, hc2⟩ := one_v6 w2 zk zb zn zt zo zl zq uo ul uq
    have HW2 := Lib.hid hW2
    have hbb := btr hb2 hc2
    have HB2 := Lib.hid (btr HB1.out hbb)
    have HK1' : Hid (W2.heap[w1.heap.size]? = some (obV xk xb xn xt xo xl xq yo yl yq)) := (hbb.block _ (Array.getElem?_eq_some_iff.1 HK1.out).1).trans HK1.out
    have HR1' := Lib.hid (Rep.keep (Kep.of hbb) _ HR1.out)
    have HR2' := Lib.hid (Rep.keep (Kep.of hc2) _ hrep2)
    obtain ⟨a0, a1, a2, a3, a4, a5⟩ := cells6 HK1'.out
    obtain ⟨c0, c1, c2, c3, c4, c5⟩ := cells6 hk2
    clear hrep2 hb2 hW2 hk2 hc2 hbb HP2
    by_cases her : er = 0
    · obtain ⟨h1, h2, h3⟩ := HSH.out.2 her
      subst h1 h2 h3 her
      have hw1 := HWD.out
      have hw2 := HWD2.out
      have HSM := Lib.hid (Same_c HR1'.out HR2'.out (by omega) (by omega))
      rw [smJ_refl] at HSM
      unfold SmQ at HSM
      clear HSH hw1 hw2
      go_upto_region 5 with (fail)
      rw [← HW2.out]
      go_wp2_with fail
      (with_reducible refine HSM.out.mono ?_)
      rintro e w3 ⟨rfl, hb3⟩
      have HB3 := Lib.hid (btr HB2.out hb3)
      clear hb3 a0 a1 a2 a3 a4 a5 c0 c1 c2 c3 c4 c5
      go_wp2_with fail
      (with_reducible refine (awake_c w3 (HE.out.go HB3.out)).mono ?_)
      rintro e w4 ⟨rfl, hb4⟩
      have HB4 := Lib.hid (btr HB3.out hb4)
      clear hb4
      go_wp2
      go_ret
      exact ⟨rfl, HB4.out⟩
    · obtain ⟨h1, h2⟩ := HSH.out.1 her
      subst h1
      have hp1 : (p : Int) ≤ (p2 : Int) := by omega
      have e1 : (er2 == 0) = false := by simpa using her
      have e2 : (er2 != 0) = true := by rw [bne, e1]; rfl
      clear HSH her h2
      go_upto_region 5 with (fail)
      rw [← HW2.out]
      go_wp2_with fail
      (with_reducible refine (awake_c W2 (HE.out.go HB2.out)).mono ?_)
      rintro e w4 ⟨rfl, hb4⟩
      have HB4 := Lib.hid (btr HB2.out hb4)
      clear hb4
      go_wp2
      go_ret
      exact ⟨rfl, HB4.out⟩
  · have hsz : x0.size ≤ 150 := by omega
    have h150 : ¬ (150 : Int) < (x0.size : Int) := by omega
    obtain ⟨s, hs⟩ : ∃ s, s = x0 := ⟨_, rfl⟩
    subst hs
    have HP := Lib.hid (Parse_c s d w hE (by omega))
    clear hE
    go_enter Tryd.func6, Tryd.ntmps6
    go_wp2_with fail
    clear h150
    (with_reducible refine HP.out.mono ?_)
    rintro e w1 ⟨xk, xb, xn, xt, xo, xl, xq, yo, yl, yq, rfl, hrep, hb1⟩
    obtain ⟨W1, hW1, hk1, hc1⟩ := one_v6 w1 xk xb xn xt xo xl xq yo yl yq
    have HW1 := Lib.hid hW1
    have HK1 := Lib.hid hk1
    have HB1 := Lib.hid (btr hb1 hc1)
    have HR1 := Lib.hid (Rep.keep (Kep.of hc1) _ hrep)
    have hsl := size_l s
    have HWD := Lib.hid (parse_wid s.data.toList d)
    have HSH := Lib.hid (parse_ar s.data.toList d)
    rw [← hsl] at HWD HSH
    have hcat : ((ByteArray.mk #[32, 10] ++ s) ++ ByteArray.mk #[9, 13]).data.toList = arnd s.data.toList := cat_ar s
    obtain ⟨s2, hs2⟩ : ∃ s2, s2 = (ByteArray.mk #[32, 10] ++ s) ++ ByteArray.mk #[9, 13] := ⟨_, rfl⟩
    rw [← hs2] at hcat
    have hz2 : s2.size = s.size + 4 := by rw [size_l s2, hcat, arnd_len, ← hsl]
    have HP2 := Lib.hid (Parse_c s2 d W1 (HE.out.go HB1.out) (by omega))
    have HWD2 := Lib.hid (parse_wid s2.data.toList d)
    rw [hcat, arnd_len, ← hsl] at HWD2
    rw [hcat] at HP2
    have HS2 := Lib.hid hs2
    clear hrep hb1 hW1 hk1 hc1 HP hsl hcat hz2 hs2
    revert HR1 HWD HSH HP2 HWD2
    generalize parseP s.data.toList d = R
    generalize parseP (arnd s.data.toList) d = R2
    obtain ⟨v, p, er⟩ := R
    obtain ⟨v2, p2, er2⟩ := R2
    unfold PaQ
    intro HR1 HWD HSH HP2 HWD2
    simp only at HR1 HWD HSH HP2 HWD2 ⊢
    go_upto_region 4 with (fail)
    rw [← HW1.out]
    go_wp2_with fail
    rw [← HS2.out]
    (with_reducible refine HP2.out.mono ?_)
    rintro e w2 ⟨zk, zb, zn, zt, zo, zl, zq, uo, ul, uq, rfl, hrep2, hb2⟩
    obtain ⟨W2, hW2, hk2, hc2⟩ := one_v6 w2 zk zb zn zt zo zl zq uo ul uq
    have HW2 := Lib.hid hW2
    have hbb := btr hb2 hc2
    have HB2 := Lib.hid (btr HB1.out hbb)
    have HK1' : Hid (W2.heap[w1.heap.size]? = some (obV xk xb xn xt xo xl xq yo yl yq)) := (hbb.block _ (Array.getElem?_eq_some_iff.1 HK1.out).1).trans HK1.out
    have HR1' := Lib.hid (Rep.keep (Kep.of hbb) _ HR1.out)
    have HR2' := Lib.hid (Rep.keep (Kep.of hc2) _ hrep2)
    obtain ⟨a0, a1, a2, a3, a4, a5⟩ := cells6 HK1'.out
    obtain ⟨c0, c1, c2, c3, c4, c5⟩ := cells6 hk2
    clear hrep2 hb2 hW2 hk2 hc2 hbb HP2
    by_cases her : er = 0
    · obtain ⟨h1, h2, h3⟩ := HSH.out.2 her
      subst h1 h2 h3 her
      have hw1 := HWD.out
      have hw2 := HWD2.out
      have HSM := Lib.hid (Same_c HR1'.out HR2'.out (by omega) (by omega))
      rw [smJ_refl] at HSM
      unfold SmQ at HSM
      clear HSH hw1 hw2
      go_upto_region 5 with (fail)
      rw [← HW2.out]
      go_wp2_with fail
      (with_reducible refine HSM.out.mono ?_)
      rintro e w3 ⟨rfl, hb3⟩
      have HB3 := Lib.hid (btr HB2.out hb3)
      clear hb3 a0 a1 a2 a3 a4 a5 c0 c1 c2 c3 c4 c5
      go_wp2_with fail
      (with_reducible refine (awake_c w3 (HE.out.go HB3.out)).mono ?_)
      rintro e w4 ⟨rfl, hb4⟩
      have HB4 := Lib.hid (btr HB3.out hb4)
      clear hb4
      go_wp2
      go_ret
      exact ⟨rfl, HB4.out⟩
    · obtain ⟨h1, h2⟩ := HSH.out.1 her
      subst h1
      have hp1 : (p : Int) ≤ (p2 : Int) := by omega
      have e1 : (er2 == 0) = false := by simpa using her
      have e2 : (er2 != 0) = true := by rw [bne, e1]; rfl
      clear HSH her h2
      go_upto_region 5 with (fail)
      rw [← HW2.out]
      go_wp2_with fail
      (with_reducible refine (awake_c W2 (HE.out.go HB2.out)).mono ?_)
      rintro e w4 ⟨rfl, hb4⟩
      have HB4 := Lib.hid (btr HB2.out hb4)
      clear hb4
      go_wp2
      go_ret
      exact ⟨rfl, HB4.out⟩
end Go.Proofs.YtkphainopofejaaDoor.Jv
