/- The law JvalShape answers yes, where what is laid lies. -/
import Derived.Test.YtkphainopofejaaDoorJvGh
namespace Go.Proofs.YtkphainopofejaaDoor.Jv
open Jt
open Go.RowKit Go.ChangeMaps Go.MapKept Go.WideMaps
set_option linter.unusedSimpArgs false
set_option linter.unusedVariables false

set_option maxRecDepth 100000 in
set_option maxHeartbeats 2000000 in
theorem shape_law (x0 : ByteArray) (d : Int) (w : World) (hx : x0.size ≤ maxLen) (hE : Env w) :
    Calls Tryd.prog 3 #[.string x0, .int .i64 d] w fun e w' => e = .returned (.bool true) ∧ Below w.heap.size w w' := by
  unfold maxLen at hx
  have HE := Lib.hid hE
  by_cases hbg : 150 < x0.size
  · obtain ⟨s, hs⟩ : ∃ s, s = x0.extract 0 150 := ⟨_, rfl⟩
    have hsz : s.size ≤ 150 := by rw [hs, ByteArray.size_extract]; omega
    have HXS := Lib.hid hs
    have h150 : (150 : Int) < (x0.size : Int) := by omega
    have HP := Lib.hid (Parse_c s d w hE (by omega))
    clear hs hE
    go_enter Tryd.func3, Tryd.ntmps3
    go_wp2_with fail
    rw [← HXS.out]
    clear HXS h150
    (with_reducible refine HP.out.mono ?_)
    rintro e w1 ⟨xk, xb, xn, xt, xo, xl, xq, yo, yl, yq, rfl, hrep, hb1⟩
    obtain ⟨W1, hW1, hk1, hc1⟩ := one_v6 w1 xk xb xn xt xo xl xq yo yl yq
    have HW1 := Lib.hid hW1
    have HK1 := Lib.hid hk1
    have HB1 := Lib.hid (btr hb1 hc1)
    have HR1 := Lib.hid (Rep.keep (Kep.of hc1) _ hrep)
    have hsl := size_l s
    have HWD := Lib.hid (parse_wid s.data.toList d)
    have HSH := Lib.hid (parse_shape s.data.toList d)
    rw [← hsl] at HWD HSH
    obtain ⟨a0, a1, a2, a3, a4, a5⟩ := cells6 hk1
    clear hrep hb1 hW1 hk1 hc1 HP hsl
    revert HR1 HWD HSH
    generalize parseP s.data.toList d = R
    obtain ⟨v, p, er⟩ := R
    intro HR1 HWD HSH
    simp only at HR1 HWD HSH ⊢
    by_cases her : er = 0
    · obtain ⟨h1, h2, h3⟩ := HSH.out.2.1 her
      subst h1 her
      have HO := Lib.hid h3
      have hdv : dep v ≤ 1000000 := by omega
      have hww : wid v ≤ 1000000 := by have := HWD.out; omega
      clear h3 HSH
      have HD := Lib.hid (Depth_c HR1.out hww hdv)
      unfold DpQ at HD
      by_cases hd0 : d < 0
      · go_upto_region 4 with (fail)
        rw [← HW1.out]
        go_wp2_with fail
        (with_reducible refine HD.out.mono ?_)
        rintro e w2 ⟨rfl, hb2⟩
        have HB2 := Lib.hid (btr HB1.out hb2)
        have HR2 := Lib.hid (Rep.keep (Kep.of hb2) _ HR1.out)
        have HK2 := (hb2.block _ (Array.getElem?_eq_some_iff.1 HK1.out).1).trans HK1.out
        have HON := Lib.hid (once_c HR2.out HO.out hww)
        unfold SmQ at HON
        have h16 : (dep v : Int) ≤ 16 := by omega
        clear hb2 a0 a1 a2 a3 a4 a5
        obtain ⟨a0, a1, a2, a3, a4, a5⟩ := cells6 HK2
        clear HK2
        go_wp2_with fail
        (with_reducible refine HON.out.mono ?_)
        rintro e w3 ⟨rfl, hb3⟩
        have HB3 := Lib.hid (btr HB2.out hb3)
        clear hb3 a0 a1 a2 a3 a4 a5
        go_wp2_with fail
        (with_reducible refine (awake_c w3 (HE.out.go HB3.out)).mono ?_)
        rintro e w4 ⟨rfl, hb4⟩
        have HB4 := Lib.hid (btr HB3.out hb4)
        clear hb4
        go_wp2
        go_ret
        exact ⟨rfl, HB4.out⟩
      · have hdd : (dep v : Int) ≤ d := by omega
        have h16 : (dep v : Int) ≤ 16 := by omega
        go_upto_region 4 with (fail)
        rw [← HW1.out]
        go_wp2_with fail
        (with_reducible refine HD.out.mono ?_)
        rintro e w2 ⟨rfl, hb2⟩
        have HB2 := Lib.hid (btr HB1.out hb2)
        have HR2 := Lib.hid (Rep.keep (Kep.of hb2) _ HR1.out)
        have HK2 := Lib.hid ((hb2.block _ (Array.getElem?_eq_some_iff.1 HK1.out).1).trans HK1.out)
        have HD2 := Lib.hid (Depth_c HR2.out hww hdv)
        unfold DpQ at HD2
        clear hb2 a0 a1 a2 a3 a4 a5
        obtain ⟨a0, a1, a2, a3, a4, a5⟩ := cells6 HK2.out
        go_wp2_with fail
        (with_reducible refine HD2.out.mono ?_)
        rintro e w3 ⟨rfl, hb3⟩
        have HB3 := Lib.hid (btr HB2.out hb3)
        have HR3 := Lib.hid (Rep.keep (Kep.of hb3) _ HR2.out)
        have HK3 := (hb3.block _ (Array.getElem?_eq_some_iff.1 HK2.out).1).trans HK2.out
        have HON := Lib.hid (once_c HR3.out HO.out hww)
        unfold SmQ at HON
        clear hb3 a0 a1 a2 a3 a4 a5
        obtain ⟨a0, a1, a2, a3, a4, a5⟩ := cells6 HK3
        clear HK3
        go_wp2_with fail
        (with_reducible refine HON.out.mono ?_)
        rintro e w4 ⟨rfl, hb4⟩
        have HB4 := Lib.hid (btr HB3.out hb4)
        clear hb4 a0 a1 a2 a3 a4 a5
        go_wp2_with fail
        (with_reducible refine (awake_c w4 (HE.out.go HB4.out)).mono ?_)
        rintro e w5 ⟨rfl, hb5⟩
        have HB5 := Lib.hid (btr HB4.out hb5)
        clear hb5
        go_wp2
        go_ret
        exact ⟨rfl, HB5.out⟩
    · obtain ⟨h1, h2⟩ := HSH.out.1 her
      subst h1
      have hp0 : (0 : Int) ≤ (p : Int) := by omega
      have hp1 : (p : Int) ≤ (s.size : Int) := by omega
      have e1 : (er == 0) = false := by simpa using her
      have e2 : (er != 0) = true := by rw [bne, e1]; rfl
      have HSM := Lib.hid (Same_c (y := zV) HR1.out (rep_leaf (fun _ => True) W1 0 false 0 []) (by simp [zV, wid, widL]) (by simp [zV, wid, widL]))
      rw [smJ_refl, show mkS [] = ⟨#[]⟩ from rfl] at HSM
      unfold SmQ at HSM
      clear HSH her
      go_upto_region 4 with (fail)
      rw [← HW1.out]
      go_wp2_with fail
      (with_reducible refine HSM.out.mono ?_)
      rintro e w2 ⟨rfl, hb2⟩
      have HB2 := Lib.hid (btr HB1.out hb2)
      clear hb2 a0 a1 a2 a3 a4 a5
      go_wp2_with fail
      (with_reducible refine (awake_c w2 (HE.out.go HB2.out)).mono ?_)
      rintro e w4 ⟨rfl, hb4⟩
      have HB4 := Lib.hid (btr HB2.out hb4)
      clear hb4
      go_wp2
      go_ret
      exact ⟨rfl, HB4.out⟩
  · have hsz : x0.size ≤ 150 := by omega
    have h150 : ¬ (150 : Int) < (x0.size : Int) := by omega
    obtain ⟨s, hs⟩ : ∃ s, s = x0 := ⟨_, rfl⟩
    subst hs
    have HP := Lib.hid (Parse_c s d w hE (by omega))
    clear hE
    go_enter Tryd.func3, Tryd.ntmps3
    go_wp2_with fail
    clear h150
    (with_reducible refine HP.out.mono ?_)
    rintro e w1 ⟨xk, xb, xn, xt, xo, xl, xq, yo, yl, yq, rfl, hrep, hb1⟩
    obtain ⟨W1, hW1, hk1, hc1⟩ := one_v6 w1 xk xb xn xt xo xl xq yo yl yq
    have HW1 := Lib.hid hW1
    have HK1 := Lib.hid hk1
    have HB1 := Lib.hid (btr hb1 hc1)
    have HR1 := Lib.hid (Rep.keep (Kep.of hc1) _ hrep)
    have hsl := size_l s
    have HWD := Lib.hid (parse_wid s.data.toList d)
    have HSH := Lib.hid (parse_shape s.data.toList d)
    rw [← hsl] at HWD HSH
    obtain ⟨a0, a1, a2, a3, a4, a5⟩ := cells6 hk1
    clear hrep hb1 hW1 hk1 hc1 HP hsl
    revert HR1 HWD HSH
    generalize parseP s.data.toList d = R
    obtain ⟨v, p, er⟩ := R
    intro HR1 HWD HSH
    simp only at HR1 HWD HSH ⊢
    by_cases her : er = 0
    · obtain ⟨h1, h2, h3⟩ := HSH.out.2.1 her
      subst h1 her
      have HO := Lib.hid h3
      have hdv : dep v ≤ 1000000 := by omega
      have hww : wid v ≤ 1000000 := by have := HWD.out; omega
      clear h3 HSH
      have HD := Lib.hid (Depth_c HR1.out hww hdv)
      unfold DpQ at HD
      by_cases hd0 : d < 0
      · go_upto_region 4 with (fail)
        rw [← HW1.out]
        go_wp2_with fail
        (with_reducible refine HD.out.mono ?_)
        rintro e w2 ⟨rfl, hb2⟩
        have HB2 := Lib.hid (btr HB1.out hb2)
        have HR2 := Lib.hid (Rep.keep (Kep.of hb2) _ HR1.out)
        have HK2 := (hb2.block _ (Array.getElem?_eq_some_iff.1 HK1.out).1).trans HK1.out
        have HON := Lib.hid (once_c HR2.out HO.out hww)
        unfold SmQ at HON
        have h16 : (dep v : Int) ≤ 16 := by omega
        clear hb2 a0 a1 a2 a3 a4 a5
        obtain ⟨a0, a1, a2, a3, a4, a5⟩ := cells6 HK2
        clear HK2
        go_wp2_with fail
        (with_reducible refine HON.out.mono ?_)
        rintro e w3 ⟨rfl, hb3⟩
        have HB3 := Lib.hid (btr HB2.out hb3)
        clear hb3 a0 a1 a2 a3 a4 a5
        go_wp2_with fail
        (with_reducible refine (awake_c w3 (HE.out.go HB3.out)).mono ?_)
        rintro e w4 ⟨rfl, hb4⟩
        have HB4 := Lib.hid (btr HB3.out hb4)
        clear hb4
        go_wp2
        go_ret
        exact ⟨rfl, HB4.out⟩
      · have hdd : (dep v : Int) ≤ d := by omega
        have h16 : (dep v : Int) ≤ 16 := by omega
        go_upto_region 4 with (fail)
        rw [← HW1.out]
        go_wp2_with fail
        (with_reducible refine HD.out.mono ?_)
        rintro e w2 ⟨rfl, hb2⟩
        have HB2 := Lib.hid (btr HB1.out hb2)
        have HR2 := Lib.hid (Rep.keep (Kep.of hb2) _ HR1.out)
        have HK2 := Lib.hid ((hb2.block _ (Array.getElem?_eq_some_iff.1 HK1.out).1).trans HK1.out)
        have HD2 := Lib.hid (Depth_c HR2.out hww hdv)
        unfold DpQ at HD2
        clear hb2 a0 a1 a2 a3 a4 a5
        obtain ⟨a0, a1, a2, a3, a4, a5⟩ := cells6 HK2.out
        go_wp2_with fail
        (with_reducible refine HD2.out.mono ?_)
        rintro e w3 ⟨rfl, hb3⟩
        have HB3 := Lib.hid (btr HB2.out hb3)
        have HR3 := Lib.hid (Rep.keep (Kep.of hb3) _ HR2.out)
        have HK3 := (hb3.block _ (Array.getElem?_eq_some_iff.1 HK2.out).1).trans HK2.out
        have HON := Lib.hid (once_c HR3.out HO.out hww)
        unfold SmQ at HON
        clear hb3 a0 a1 a2 a3 a4 a5
        obtain ⟨a0, a1, a2, a3, a4, a5⟩ := cells6 HK3
        clear HK3
        go_wp2_with fail
        (with_reducible refine HON.out.mono ?_)
        rintro e w4 ⟨rfl, hb4⟩
        have HB4 := Lib.hid (btr HB3.out hb4)
        clear hb4 a0 a1 a2 a3 a4 a5
        go_wp2_with fail
        (with_reducible refine (awake_c w4 (HE.out.go HB4.out)).mono ?_)
        rintro e w5 ⟨rfl, hb5⟩
        have HB5 := Lib.hid (btr HB4.out hb5)
        clear hb5
        go_wp2
        go_ret
        exact ⟨rfl, HB5.out⟩
    · obtain ⟨h1, h2⟩ := HSH.out.1 her
      subst h1
      have hp0 : (0 : Int) ≤ (p : Int) := by omega
      have hp1 : (p : Int) ≤ (s.size : Int) := by omega
      have e1 : (er == 0) = false := by simpa using her
      have e2 : (er != 0) = true := by rw [bne, e1]; rfl
      have HSM := Lib.hid (Same_c (y := zV) HR1.out (rep_leaf (fun _ => True) W1 0 false 0 []) (by simp [zV, wid, widL]) (by simp [zV, wid, widL]))
      rw [smJ_refl, show mkS [] = ⟨#[]⟩ from rfl] at HSM
      unfold SmQ at HSM
      clear HSH her
      go_upto_region 4 with (fail)
      rw [← HW1.out]
      go_wp2_with fail
      (with_reducible refine HSM.out.mono ?_)
      rintro e w2 ⟨rfl, hb2⟩
      have HB2 := Lib.hid (btr HB1.out hb2)
      clear hb2 a0 a1 a2 a3 a4 a5
      go_wp2_with fail
      (with_reducible refine (awake_c w2 (HE.out.go HB2.out)).mono ?_)
      rintro e w4 ⟨rfl, hb4⟩
      have HB4 := Lib.hid (btr HB2.out hb4)
      clear hb4
      go_wp2
      go_ret
      exact ⟨rfl, HB4.out⟩
end Go.Proofs.YtkphainopofejaaDoor.Jv
