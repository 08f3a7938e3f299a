/- The law MvKeeps answers yes; no other condition. -/
import Derived.Test.YtjceofkcahfhmaaMvEl
namespace Go.Proofs.Ytjceofkcahfhmaa.Mv
open Go.RowKit Go.Lib Go.Maps Go.Shelf Go.Sort
open Go.Proofs.Ytjceofkcahfhmaa.Cn
set_option linter.unusedSimpArgs false
set_option linter.unusedVariables false

theorem new_both (kl vl : Int) {c1 : Nat} {w w1 w2 : World} (hc : c1 = w.heap.size + 1) (h1 : w1.heap[c1]? = some (obN kl vl 0 0 (.map none) 0 0 (.slice none 0 0))) (hb1 : Below w.heap.size w w1) (h2 : w2.heap[w1.heap.size]? = some (.cells #[.slice none 0 0] 40 (0, 0))) (h3 : w2.heap[w1.heap.size + 1]? = some (.cells #[.slice (some ⟨w1.heap.size, 0, none⟩) 1 1, .int .i64 (max kl 1), .int .i64 (max vl 1), .int .i64 0, .slice none 0 0, .slice none 0 0] 38 (0, 0))) (hb2 : Below w1.heap.size w1 w2) :
    Jn (fun k => k < w.heap.size) c1 (w1.heap.size + 1) kl vl 0 X0 w2 ∧ Below w.heap.size w w2 := by
  have hlt := (Array.getElem?_eq_some_iff.1 h1).1
  exact ⟨Jn.new (w := w) h1 (fun k hk => by omega) hlt hb2 (Nat.le_refl _) h2 h3, hb1.trans (hb2.mono hb1.size)⟩
set_option maxRecDepth 100000 in
set_option maxHeartbeats 8000000 in
theorem keeps_law (a : Option Addr) (len cap : Nat) (ts : List OpT) (b : Option Addr) (len2 cap2 : Nat) (us : List OpT) (q : Int) (w : World) (h : IsOps w a len ts) (h2 : IsOps w b len2 us) :
    Calls Try.prog 5 #[.slice a len cap, .slice b len2 cap2, .int .i64 q] w fun e w' => e = .returned (.bool true) ∧ Below w.heap.size w w' := by
  have HI := Lib.hid h
  have HI2 := Lib.hid h2
  have hlen := h.2.1
  have hlen2 := h2.2.1
  simp only [maxLen] at hlen hlen2
  clear h h2
  have HN1 := Lib.hid (New_c 20 100 w)
  go_enter Try.func5, Try.ntmps5
  go_upto_region 2 with (first | (go_at_call 6; (with_reducible refine HN1.out.mono ?_); rintro e w1 ⟨rfl, hn1, hb1⟩; have HX1 := Lib.hid hn1; have HB1 := Lib.hid hb1; have HN2 := Lib.hid (NewR_c 20 100 w1); clear hn1 hb1) | (go_at_call 7; (with_reducible refine HN2.out.mono ?_); rintro e w2 ⟨rfl, hn2, hn3, hb2⟩; have HX2 := Lib.hid hn2; have HX3 := Lib.hid hn3; have HB2 := Lib.hid hb2; clear hn2 hn3 hb2))
  obtain ⟨c, hc⟩ : ∃ c, c = w.heap.size + 1 := ⟨_, rfl⟩
  rw [← hc] at HX1 ⊢
  have K0 := Lib.hid (new_both 20 100 hc HX1.out HB1.out HX2.out HX3.out HB2.out)
  clear HX1 HX2 HX3 HB2 HB1 hc
  generalize w1.heap.size + 1 = r at K0 ⊢
  have HZ : Hid (∀ z, z < w.heap.size → z < w.heap.size) := fun z hz => hz
  go_wp2
  go_loopw [25] (fun iv wr => ∃ (j : Nat) (X : Sx), j ≤ len ∧ iv = .int .i64 (j : Int) ∧ Hid (Jn (fun z => z < w.heap.size) c r 20 100 (min j 15) X wr ∧ True) ∧ Hid (Below w.heap.size w wr)) (fun iv _ => len - (intOf iv).toNat)
  case atStart => exact ⟨0, X0, Nat.zero_le _, rfl, Lib.hid ⟨K0.out.1, trivial⟩, Lib.hid K0.out.2⟩
  case round =>
    clear K0
    obtain ⟨j, X, hj, rfl, HJ, HB⟩ := hrel
    have hzw : w.heap.size ≤ wr.heap.size := HB.out.size
    by_cases hlt : j < len
    · have hI := HI.out.go HB.out
      have hjt : j < ts.length := by rw [hI.1]; exact hlt
      obtain ⟨g, off, rfl, hg, hat⟩ := hI.2.2.2 (by omega)
      obtain ⟨p0, p1, p2, p3, p4, p5⟩ := hat j hjt
      have hj0 : (0 : Int) ≤ (j : Int) := by omega
      have hjl : (j : Int) < (len : Int) := by omega
      have hOK := hI.2.2.1 ts[j] (List.getElem_mem _)
      obtain ⟨⟨k, v, cs, rv, ky, pf, nn⟩, ho⟩ : ∃ o : OpT, ts[j] = o := ⟨_, rfl⟩
      rw [ho] at p0 p1 p2 p3 p4 p5 hOK
      dsimp only at p0 p1 p2 p3 p4 p5
      obtain ⟨av, cv, hv, _⟩ := id hOK.1
      dsimp only at hv
      subst hv
      obtain ⟨W1, hW1, hk1, hb1⟩ := new6 wr (.int .i64 k) (.slice av cs.length cv) (.int .i64 rv) (.string ky) (.string pf) (.int .i64 nn) 31
      have HW1 := Lib.hid hW1
      have hgn : g ≠ wr.heap.size := by omega
      obtain ⟨q0, q1, q2, q3, q4, q5⟩ := cells6 hk1
      have HB1 : Hid (Below w.heap.size w W1) := HB.out.trans (hb1.mono hzw)
      have HJ1 : Hid (Jn (fun z => z < w.heap.size) c r 20 100 (min j 15) X W1) := HJ.out.1.go hb1
      have HBW := Lib.hid hb1
      have HO1 := Lib.hid (hOK.go hb1)
      clear hat ho hW1 hk1 hb1 hOK hI hjt
      by_cases h15 : j < 15
      · have h15i : (j : Int) < 15 := by omega
        have hmn : min (j + 1) 15 = min j 15 + 1 := by omega
        have HST := Lib.hid (step_c HJ1.out (by omega) (fun z hz => Nat.lt_of_lt_of_le (HZ.out z hz) (Nat.le_trans hzw HBW.out.size)) k _ cs rv ky pf nn HO1.out)
        go_upto_region 5 with (fail)
        rw [← HW1.out]
        go_wp2_with (go_at_call 8; (with_reducible refine HST.out.mono ?_); rintro e w5 ⟨rfl, X', hj5, hg5, hf5⟩; have HJ5 := Lib.hid hj5; have HG5 := Lib.hid hg5; have HF5 := Lib.hid hf5; clear hj5 hg5 hf5)
        go_roundw
        case rel => exact ⟨j + 1, X', by omega, by go_num, Lib.hid ⟨by rw [hmn]; exact HJ5.out, trivial⟩, Lib.hid (HB1.out.trans (fr_below HF5.out (fun z hz => hz) HB1.out.size))⟩
        case measure => simp [intOf]; omega
      · have h15i : ¬ (j : Int) < 15 := by omega
        have hmn : min (j + 1) 15 = min j 15 := by omega
        go_upto_region 5 with (fail)
        rw [← HW1.out]
        go_wp2
        go_roundw
        case rel => exact ⟨j + 1, X, by omega, by go_num, Lib.hid ⟨by rw [hmn]; exact HJ1.out, trivial⟩, HB1⟩
        case measure => simp [intOf]; omega
    · have hjl : ¬ (j : Int) < (len : Int) := by omega
      have HJX := Lib.hid (HJ.out.1.le (m := 15) (by omega))
      have HP1 : Hid (Pln 15 X) := HJX.out.1
      have HR1 := Lib.hid (range_j HJX.out (by omega) (fun z hz => Nat.lt_of_lt_of_le hz hzw) ⟨#[]⟩ ⟨#[]⟩ 100 q)
      go_upto_region 9 with (go_at_call 15; (with_reducible refine HR1.out.mono ?_); rintro e w2b ⟨v1, M1, rfl, hM1, ho1, hj1, hf1⟩; have HO1 := Lib.hid ho1; have K1 := Lib.hid hj1; have HF1 := Lib.hid hf1; clear ho1 hj1 hf1)
      have HBb : Hid (Below w.heap.size w w2b) := HB.out.trans (fr_below HF1.out (fun z hz => hz) hzw)
      have HZ1 : Hid (∀ z, (z < w.heap.size ∨ v1.ownBlock = some z) → z < w2b.heap.size) := fun z hz => hz.elim (fun h => by have := HBb.out.size; omega) (fun e => (HO1.out.lt z e).2)
      have HZ := HZ1
      obtain ⟨X1, hX1⟩ : ∃ X1, X1 = X := ⟨_, rfl⟩
      rw [← hX1] at HO1 K1 HP1 ⊢
      clear HJ HB HJX HR1 HF1 hX1 hjl hj hzw
      clear X
      go_wp2
      go_loopw [46] (fun iv wr => ∃ (j : Nat) (X : Sx), j ≤ len2 ∧ iv = .int .i64 (j : Int) ∧ Hid (Jn (fun z => z < w.heap.size ∨ v1.ownBlock = some z) c r 20 100 (15 + min j 15) X wr ∧ Grw X1 X ∧ Fr (fun z => ¬ (z < w.heap.size ∨ v1.ownBlock = some z)) w2b wr) ∧ Hid (Below w.heap.size w wr)) (fun iv _ => len2 - (intOf iv).toNat)
      case atStart => exact ⟨0, X1, Nat.zero_le _, rfl, Lib.hid ⟨K1.out, Grw.refl _, Fr.refl _ _⟩, HBb⟩
      case round =>
        clear K1
        obtain ⟨j, X, hj, rfl, HJ, HB⟩ := hrel
        have hzw : w.heap.size ≤ wr.heap.size := HB.out.size
        by_cases hlt : j < len2
        · have hI := HI2.out.go HB.out
          have hjt : j < us.length := by rw [hI.1]; exact hlt
          obtain ⟨g, off, rfl, hg, hat⟩ := hI.2.2.2 (by omega)
          obtain ⟨p0, p1, p2, p3, p4, p5⟩ := hat j hjt
          have hj0 : (0 : Int) ≤ (j : Int) := by omega
          have hjl : (j : Int) < (len2 : Int) := by omega
          have hOK := hI.2.2.1 us[j] (List.getElem_mem _)
          obtain ⟨⟨k, v, cs, rv, ky, pf, nn⟩, ho⟩ : ∃ o : OpT, us[j] = o := ⟨_, rfl⟩
          rw [ho] at p0 p1 p2 p3 p4 p5 hOK
          dsimp only at p0 p1 p2 p3 p4 p5
          obtain ⟨av, cv, hv, _⟩ := id hOK.1
          dsimp only at hv
          subst hv
          obtain ⟨W1, hW1, hk1, hb1⟩ := new6 wr (.int .i64 k) (.slice av cs.length cv) (.int .i64 rv) (.string ky) (.string pf) (.int .i64 nn) 31
          have HW1 := Lib.hid hW1
          have hgn : g ≠ wr.heap.size := by omega
          obtain ⟨q0, q1, q2, q3, q4, q5⟩ := cells6 hk1
          have HB1 : Hid (Below w.heap.size w W1) := HB.out.trans (hb1.mono hzw)
          have HJ1 : Hid (Jn (fun z => z < w.heap.size ∨ v1.ownBlock = some z) c r 20 100 (15 + min j 15) X W1) := HJ.out.1.go hb1
          have HBW := Lib.hid hb1
          have HO1 := Lib.hid (hOK.go hb1)
          clear hat ho hW1 hk1 hb1 hOK hI hjt
          by_cases h15 : j < 15
          · have h15i : (j : Int) < 15 := by omega
            have hmn : 15 + min (j + 1) 15 = 15 + min j 15 + 1 := by omega
            have HST := Lib.hid (step_c HJ1.out (by omega) (fun z hz => Nat.lt_of_lt_of_le (HZ.out z hz) (Nat.le_trans HJ.out.2.2.size HBW.out.size)) k _ cs rv ky pf nn HO1.out)
            go_upto_region 12 with (fail)
            rw [← HW1.out]
            go_wp2_with (go_at_call 8; (with_reducible refine HST.out.mono ?_); rintro e w5 ⟨rfl, X', hj5, hg5, hf5⟩; have HJ5 := Lib.hid hj5; have HG5 := Lib.hid hg5; have HF5 := Lib.hid hf5; clear hj5 hg5 hf5)
            go_roundw
            case rel => exact ⟨j + 1, X', by omega, by go_num, Lib.hid ⟨by rw [hmn]; exact HJ5.out, HJ.out.2.1.trans HG5.out, (HJ.out.2.2.trans (Fr.below HBW.out) (fun z hz => .inl hz)).trans HF5.out (fun z hz => .inl hz)⟩, Lib.hid (HB1.out.trans (fr_below HF5.out (fun z hz => .inl hz) HB1.out.size))⟩
            case measure => simp [intOf]; omega
          · have h15i : ¬ (j : Int) < 15 := by omega
            have hmn : 15 + min (j + 1) 15 = 15 + min j 15 := by omega
            go_upto_region 12 with (fail)
            rw [← HW1.out]
            go_wp2
            go_roundw
            case rel => exact ⟨j + 1, X, by omega, by go_num, Lib.hid ⟨by rw [hmn]; exact HJ1.out, HJ.out.2.1, HJ.out.2.2.trans (Fr.below HBW.out) (fun z hz => .inl hz)⟩, HB1⟩
            case measure => simp [intOf]; omega
        · have hjl : ¬ (j : Int) < (len2 : Int) := by omega
          clear HZ
          have HJ2 := Lib.hid HJ.out.1
          have HG2 := Lib.hid HJ.out.2.1
          have HF2 := Lib.hid HJ.out.2.2
          have HR2 := Lib.hid (range_j HJ2.out (by omega) (fun z hz => Nat.lt_of_lt_of_le (HZ1.out z hz) HF2.out.size) ⟨#[]⟩ ⟨#[]⟩ 100 q)
          have HAW := Lib.hid awake_c
          go_upto_region 16 with (go_at_call 15; (with_reducible refine HR2.out.mono ?_); rintro e w4 ⟨v2, M2, rfl, hM2, ho2, hj2, hf2⟩; have HO2 := Lib.hid ho2; have HJ4 := Lib.hid hj2; have HF4 := Lib.hid hf2; clear ho2 hj2 hf2 hM2)
          have HB4 : Hid (Below w.heap.size w w4) := HB.out.trans (fr_below HF4.out (fun z hz => .inl hz) hzw)
          have HOA : Hid (w4.ownsRow M1 49 3 v1 (rgW X1.A X1.fl ⟨#[]⟩ ⟨#[]⟩ 100 q).1.length (iC (rgW X1.A X1.fl ⟨#[]⟩ ⟨#[]⟩ 100 q).1)) := row_fr HO1.out (HF2.out.trans HF4.out (fun z hz => .inl hz)) (fun g e hn => hn (.inr e))
          obtain ⟨mb, od, hcell⟩ := HJ4.out.cell
          have HFL := Lib.hid (Floor_c _ _ _ _ _ _ _ _ _ w4 hcell)
          obtain ⟨hP2, _⟩ := HJ4.out
          have hll := rgW_len HP1.out ⟨#[]⟩ ⟨#[]⟩ 100 q
          have HKE := Lib.hid (keeps_eq HP1.out hP2 HG2.out ⟨#[]⟩ ⟨#[]⟩ 100 q)
          obtain ⟨⟨L1, b1, e1⟩, hr1⟩ : ∃ y, rgW X1.A X1.fl ⟨#[]⟩ ⟨#[]⟩ 100 q = y := ⟨_, rfl⟩
          obtain ⟨⟨L2, b2, e2⟩, hr2⟩ : ∃ y, rgW X.A X.fl ⟨#[]⟩ ⟨#[]⟩ 100 q = y := ⟨_, rfl⟩
          rw [hr1] at HOA HKE hll ⊢
          rw [hr2] at HO2 HKE ⊢
          dsimp only at HOA HKE HO2 hll ⊢
          generalize X.fl = fl at HFL HKE ⊢
          clear hr1 hr2 hcell hP2 HO1 HJ HJ2 HR2 HF2 HF4 HJ4 HP1
          by_cases he : e1 = 0
          · subst he
            rcases HKE.out rfl with ⟨hlf, h9⟩ | ⟨hlf, heq⟩
            · subst h9
              go_wp2_with (first | (go_at_call 11; (with_reducible refine HFL.out.mono ?_); rintro e w5 ⟨rfl, hw5⟩; subst w5) | (go_at_call 17; (with_reducible refine (HAW.out _).mono ?_); rintro e w6 ⟨rfl, hb6⟩; have HB6 := Lib.hid hb6; clear hb6))
              go_ret
              exact ⟨rfl, HB4.out.trans (HB6.out.mono HB4.out.size)⟩
            · injection heq with x1 x2
              injection x2 with x2 x3
              subst x1 x3
              obtain ⟨n, hn⟩ : ∃ n, n = L2.length := ⟨_, rfl⟩
              have HN : Hid (L2.length = n) := hn.symm
              have HA4 := Lib.hid (OwI.rd HOA.out)
              have HC4 := Lib.hid (OwI.rd HO2.out)
              obtain ⟨a1, p1, hv1⟩ := own_form HOA.out
              obtain ⟨a2, p2, hv2⟩ := own_form HO2.out
              subst hv1 hv2
              rw [← hn] at HA4 HC4 hll ⊢
              clear hn HOA HO2
              go_wp2_with (go_at_call 11; (with_reducible refine HFL.out.mono ?_); rintro e w5 ⟨rfl, hw5⟩; subst w5)
              go_loopw [97] (fun iv wx => ∃ i : Nat, i ≤ n ∧ iv = .int .i64 (i : Int) ∧ Hid (Below w4.heap.size w4 wx)) (fun iv _ => n - (intOf iv).toNat)
              case atStart => exact ⟨0, Nat.zero_le _, rfl, Lib.hid (Below.refl _ _)⟩
              case round =>
                obtain ⟨i, hi, rfl, HBX⟩ := hrel
                by_cases hlt : i < n
                · have hiL : i < L2.length := by rw [HN.out]; exact hlt
                  obtain ⟨g1, rfl, _, hg1, hat1⟩ := rdi_at (HA4.out.go HBX.out) (by omega)
                  obtain ⟨g2, rfl, _, hg2, hat2⟩ := rdi_at (HC4.out.go HBX.out) (by omega)
                  obtain ⟨p0, p1, p2⟩ := hat1 i hiL
                  obtain ⟨q0, q1, q2⟩ := hat2 i hiL
                  have hi0 : (0 : Int) ≤ (i : Int) := by omega
                  have hil : (i : Int) < (n : Int) := by omega
                  obtain ⟨⟨x1, x2, x3⟩, hx⟩ : ∃ x : ItT, L2[i] = x := ⟨_, rfl⟩
                  rw [hx] at p0 p1 p2 q0 q1 q2
                  dsimp only at p0 p1 p2 q0 q1 q2
                  have hN : ∀ W : World, (binOp .neq 49 (.agg #[.string x1, .string x2, .int .i64 x3]) (.agg #[.string x1, .string x2, .int .i64 x3])).run Try.prog W = .ok (.bool false) W := fun W => eqIs .neq (x1, x2, x3) W (.inr rfl)
                  clear hat1 hat2 hx hiL
                  go_wp2
                  go_quiet (fail)
                  go_wp2
                  go_roundw
                  case rel => exact ⟨i + 1, by omega, by go_num, Lib.hid (HBX.out.trans ((bdrN wr _).mono HBX.out.size))⟩
                  case measure => simp [intOf]; omega
                · have hil : ¬ (i : Int) < (n : Int) := by omega
                  go_wp2_with (go_at_call 17; (with_reducible refine (HAW.out _).mono ?_); rintro e w6 ⟨rfl, hb6⟩; have HB6 := Lib.hid hb6; clear hb6)
                  go_ret
                  exact ⟨rfl, HB4.out.trans ((HBX.out.mono HB4.out.size).trans (HB6.out.mono (Nat.le_trans HB4.out.size HBX.out.size)))⟩
          · have he1 : (e1 != 0) = true := by simpa using he
            have he2 : (e1 == 0) = false := by simpa using he
            go_wp2_with (go_at_call 17; (with_reducible refine (HAW.out _).mono ?_); rintro e w6 ⟨rfl, hb6⟩; have HB6 := Lib.hid hb6; clear hb6)
            go_ret
            exact ⟨rfl, HB4.out.trans (HB6.out.mono HB4.out.size)⟩
end Go.Proofs.Ytjceofkcahfhmaa.Mv
