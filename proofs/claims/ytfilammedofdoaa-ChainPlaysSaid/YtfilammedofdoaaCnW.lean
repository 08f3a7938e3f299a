/- The law ChainPlays answers yes; no other condition. -/
import Derived.Test.YtfilammedofdoaaCnU
namespace Go.Proofs.Ytfilammedofdoaa.Cn
open Go.RowKit Go.Lib Go.Shelf Go.Sort
set_option linter.unusedSimpArgs false
set_option linter.unusedVariables false

theorem btr {a b d : World} (h : Below a.heap.size a b) (k : Below b.heap.size b d) : Below a.heap.size a d := h.trans (k.mono h.size)
set_option maxRecDepth 100000 in
set_option maxHeartbeats 1000000 in
theorem plays_law (a : Option Addr) (len cap : Nat) (ts : List OpT) (rev : Int) (w : World) (h : IsOps w a len ts) :
    Calls Try.prog 3 #[.slice a len cap, .int .i64 rev] w fun e w' => e = .returned (.bool true) ∧ Below w.heap.size w w' := by
  have HI := Lib.hid h
  have hlen := h.2.1
  have htl := h.1
  unfold maxLen at hlen
  clear h
  obtain ⟨c, hc⟩ : ∃ c, c = w.heap.size := ⟨_, rfl⟩
  have HC := Lib.hid hc
  clear hc
  go_enter Try.func3, Try.ntmps3
  go_wp2_with fail
  refine (New_c w).mono ?_
  rintro e w1 ⟨rfl, hn, hb⟩
  rw [← HC.out] at hn ⊢
  have K0 : Hid (Kc 0 c none [] w w1) := ⟨by rw [← HC.out]; exact hn, by rw [← HC.out] at hb ⊢; exact hb, List.Pairwise.nil, by rw [HC.out]; exact Nat.le_refl _⟩
  clear hn hb
  go_wp2
  go_loopw [6, 20] (fun wv iv wr => ∃ (j : Nat) (gb : Option Nat), j ≤ len ∧ j ≤ 40 ∧ iv = .int .i64 j ∧ Hid (Kc j c gb (runL ts j) w wr) ∧ Hid (OwV 27 w.heap.size wv (runL ts j) wr)) (fun _ iv _ => len - (intOf iv).toNat)
  case atStart => exact ⟨0, none, by omega, by omega, rfl, K0, Lib.hid (World.ownsRow_nil _ _ _ _)⟩
  case round =>
    clear K0
    obtain ⟨j, gb, hj, hj40, rfl, HK, HO⟩ := hrel
    obtain ⟨aov, cpv, hv⟩ := own_lenV HO.out
    subst hv
    by_cases hlt : j < len
    · obtain ⟨g, off, hao, hg, hat⟩ := (HI.out.go HK.out.bel).2.2 (by omega)
      subst hao
      obtain ⟨p0, p1, p2, p3, p4, p5⟩ := hat j (by omega)
      have hj0 : (0 : Int) ≤ (j : Int) := by omega
      have hjl : (j : Int) < (len : Int) := by omega
      have HSU : Hid (runL ts (j + 1) = stepL (runL ts j) (ts[j]'(by omega))) := runL_succ (by omega)
      obtain ⟨⟨k, ⟨v1, v2, v3⟩, b, r⟩, ho⟩ : ∃ o : OpT, ts[j]'(by omega) = o := ⟨_, rfl⟩
      rw [ho] at p0 p1 p2 p3 p4 p5 HSU
      simp only at p0 p1 p2 p3 p4 p5
      clear hat ho
      obtain ⟨W1, hW1, hk1, hb1⟩ := new6 wr (.int .i64 k) (.int .i64 v1) (.string v2) (.bool v3) (.bool b) (.int .i64 r) 29
      have HW1 := Lib.hid hW1
      have hgn : g ≠ wr.heap.size := by omega
      have K1 := Lib.hid (HK.out.go hb1)
      have O1 := Lib.hid (HO.out.go hb1)
      clear hW1 hk1 hb1 HK HO
      by_cases h40 : j < 40
      · have h40' : ¬ (40 : Int) ≤ (j : Int) := by omega
        have h40'' : (j : Int) < (40 : Int) := by omega
        have HST := Lib.hid (step_c K1.out (runL_bnd ts _) _ O1.out (k, (v1, v2, v3), b, r) (by omega))
        unfold opV at HST
        go_wp2_with fail
        rw [← HW1.out]
        refine HST.out.mono ?_
        rintro e w2 ⟨x, gb', rfl, hk, ho⟩
        rw [← HSU.out] at hk ho
        obtain ⟨aox, cpx, hx⟩ := own_lenV ho
        subst hx
        have K2 := Lib.hid hk
        have O2 := Lib.hid ho
        have HLN := Lib.hid (Len_c w.heap.size c (j + 1) gb' (runL ts (j + 1)) w2 hk.ch (by omega))
        clear hk ho
        go_wp2_with fail
        refine HLN.out.mono ?_
        rintro e w3 ⟨rfl, n, rfl⟩
        have K3 := Lib.hid (K2.out.go (bdrN w2 n))
        have O3 := Lib.hid (O2.out.go (bdrN w2 n))
        go_wp2
        go_roundw
        case rel => exact ⟨j + 1, gb', by omega, by omega, by go_num, K3, O3⟩
        case measure => simp [intOf]; omega
      · have h40' : (40 : Int) ≤ (j : Int) := by omega
        have h40'' : ¬ (j : Int) < (40 : Int) := by omega
        have HK' : Hid (Kc 40 c gb (runL ts j) w W1) := K1.out.up hj40
        have HO' := O1
        have RW : Hid (W1 = wr.alloc (.cells #[.int .i64 k, .int .i64 v1, .string v2, .bool v3, .bool b, .int .i64 r] 29)) := HW1
        obtain ⟨WZ, hWZ⟩ : ∃ WZ, WZ = W1 := ⟨_, rfl⟩
        rw [← hWZ] at HK' HO' RW
        clear hWZ K1 O1 HW1 HSU
        generalize runL ts j = L at HK' HO' ⊢
        have HK := HK'
        have HO := HO'
        clear HK' HO'
        have HA := Lib.hid (fun W (hb : Below WZ.heap.size WZ W) => At_c w.heap.size c 40 gb L rev W (HK.out.go hb).ch (by omega) HK.out.asc)
        have hnl : L.length ≤ 40 := HK.out.ch.le
        have HR := Lib.hid (fun W (hb : Below WZ.heap.size WZ W) => AtR_c aov cpv L rev W ((HO.out.rd).go hb) HK.out.asc (by omega))
        have HL := Lib.hid (fun W (hb : Below WZ.heap.size WZ W) => Last_c w.heap.size c 40 gb L W (HK.out.go hb).ch (by omega))
        have HAL := Lib.hid (fun W (hb : Below WZ.heap.size WZ W) => All_c w.heap.size c 40 gb L W (HK.out.go hb).ch (by omega))
        have HSA := Lib.hid (fun W a1 c1 (h1 : RdV (.slice a1 L.length c1) L W) (hb : Below WZ.heap.size WZ W) => same_c a1 aov c1 cpv L W h1 ((HO.out.rd).go hb) (by omega))
        revert HA HR
        generalize atB L rev = ab
        generalize atV L rev = av
        obtain ⟨y1, y2, y3⟩ := av
        intro HA HR
        unfold vb aggV at HA HR HL
        simp only at HA HR
        have hE : ∀ W : World, (binOp .eql 33 (.agg #[.int .i64 y1, .string y2, .bool y3]) (.agg #[.int .i64 y1, .string y2, .bool y3])).run Try.prog W = .ok (.bool true) W := fun W => by rw [eqlV]; simp
        by_cases hL : 0 < L.length
        · obtain ⟨m, hm⟩ : ∃ m, m = L.length - 1 := ⟨_, rfl⟩
          have hml : m < L.length := by omega
          have HLV : Hid (lastV L = L[m]) := by show _ = _; unfold lastV; rw [← hm, getD_at hml]
          have HLB : Hid (lastB L = true) := by show _ = _; unfold lastB; simpa using hL
          rw [HLV.out, HLB.out] at HL
          have e1 : ((L.length : Int) - 1).toNat = m := by omega
          have e2 : (0 : Int) ≤ (L.length : Int) - 1 := by omega
          have e3 : (1 : Int) ≤ (L.length : Int) := by omega
          have e4 : (L.length : Int) - 1 < (L.length : Int) := by omega
          have e5 : (0 : Int) < (L.length : Int) := by omega
          have e6 : decide ((0 : Int) < (L.length : Int)) = true := decide_eq_true e5
          obtain ⟨g0, of0, hao, hg0, hat0⟩ := rdv_at HO.out.rd hL
          subst hao
          obtain ⟨r0, _, _⟩ := hat0 m hml
          have hat0' := Lib.hid r0
          have HG0 := Lib.hid hg0
          clear hat0 hg0 r0
          obtain ⟨⟨x1, x2, x3⟩, hx⟩ : ∃ x : Ver, L[m] = x := ⟨_, rfl⟩
          rw [hx] at HL hat0'
          simp only at HL hat0'
          clear hx HLV HLB
          go_wp2_with fail
          rw [← RW.out]
          refine (HA.out WZ (Below.refl _ _)).mono ?_
          rintro e w2 ⟨rfl, hb2⟩
          obtain ⟨W3, hW3, hk3, hb3⟩ := new3 w2 (.int .i64 y1) (.string y2) (.bool y3) 33
          have HW3 := Lib.hid hW3
          have B3 : Hid (Below WZ.heap.size WZ W3) := btr hb2 hb3
          have X3 := Lib.hid hk3
          have hl3 : w2.heap.size < W3.heap.size := (Array.getElem?_eq_some_iff.1 hk3).1
          clear hW3 hk3 hb3 hb2
          go_wp2_with fail
          rw [← HW3.out]
          refine (HR.out W3 B3.out).mono ?_
          rintro e w4 ⟨rfl, hb4⟩
          obtain ⟨W5, hW5, hk5, hb5⟩ := new3 w4 (.int .i64 y1) (.string y2) (.bool y3) 27
          have HW5 := Lib.hid hW5
          have B5 : Hid (Below WZ.heap.size WZ W5) := btr B3.out (btr hb4 hb5)
          have X5a := Lib.hid (((btr hb4 hb5).block _ hl3).trans X3.out)
          have X5b := Lib.hid hk5
          have hl5a : w2.heap.size < W5.heap.size := (Array.getElem?_eq_some_iff.1 X5a.out).1
          have hl5b : w4.heap.size < W5.heap.size := (Array.getElem?_eq_some_iff.1 hk5).1
          clear hW5 hk5 hb5 hb4
          go_wp2_with fail
          rw [← HW5.out]
          refine (HL.out W5 B5.out).mono ?_
          rintro e w6 ⟨rfl, hb6⟩
          obtain ⟨W7, hW7, hk7, hb7⟩ := new3 w6 (.int .i64 x1) (.string x2) (.bool x3) 33
          have HW7 := Lib.hid hW7
          have B7 : Hid (Below WZ.heap.size WZ W7) := btr B5.out (btr hb6 hb7)
          have X7a := Lib.hid (((btr hb6 hb7).block _ hl5a).trans X5a.out)
          have X7b := Lib.hid (((btr hb6 hb7).block _ hl5b).trans X5b.out)
          have hl7a : w2.heap.size < W7.heap.size := (Array.getElem?_eq_some_iff.1 X7a.out).1
          have hl7b : w4.heap.size < W7.heap.size := (Array.getElem?_eq_some_iff.1 X7b.out).1
          obtain ⟨z0, z1, z2⟩ := cells3 hk7
          have t0 : W7.cell? ⟨g0, of0 + m * 3, none⟩ = some (.int .i64 x1) := (B7.out.cell (p := ⟨g0, of0 + m * 3, none⟩) HG0.out).trans hat0'.out
          have t0' : W7.cell? ⟨g0, of0 + (L.length - 1) * 3, none⟩ = some (.int .i64 x1) := by rw [← hm]; exact t0
          clear hW7 hk7 hb7 hb6
          go_wp2_with fail
          rw [← HW7.out]
          go_quiet (fail)
          go_wp2_with fail
          refine (HAL.out _ (btr B7.out (bdrN W7 _))).mono ?_
          rintro e w8 ⟨va, rfl, hra, hb8⟩
          obtain ⟨a8, c8, rfl, hr8⟩ := hra
          have R8 : Hid (RdV (.slice a8 L.length c8) L w8) := ⟨a8, c8, rfl, hr8⟩
          have B8 : Hid (Below W7.heap.size W7 w8) := (bdrN W7 _).trans hb8
          have HS8 := Lib.hid (HSA.out w8 a8 c8 R8.out (btr B7.out B8.out))
          clear hr8 hb8
          go_wp2_with fail
          refine HS8.out.mono ?_
          rintro e w9 ⟨rfl, hb9⟩
          have B9 : Hid (Below W7.heap.size W7 w9) := btr B8.out hb9
          obtain ⟨q0, q1, q2⟩ := cells3 ((B9.out.block _ hl7a).trans X7a.out)
          obtain ⟨s0, s1, s2⟩ := cells3 ((B9.out.block _ hl7b).trans X7b.out)
          clear hb9
          go_wp2_with fail
          refine (awake_c w9).mono ?_
          rintro e w10 ⟨rfl, hb⟩
          have HB10 : Hid (Below w.heap.size w w10) := HK.out.bel.trans ((btr B7.out (btr B9.out hb)).mono HK.out.bel.size)
          clear hb
          go_wp2
          go_ret
          exact ⟨rfl, HB10.out⟩
        · obtain rfl : L = [] := List.eq_nil_of_length_eq_zero (by omega)
          have HLV : Hid (lastV [] = zeroV) := rfl
          have HLB : Hid (lastB [] = false) := rfl
          rw [HLV.out, HLB.out] at HL
          unfold zeroV at HL
          simp only at HL
          obtain ⟨x2, hx2⟩ : ∃ x2 : ByteArray, x2 = ByteArray.empty := ⟨_, rfl⟩
          rw [← hx2] at HL
          clear hx2 hL
          go_wp2_with fail
          rw [← RW.out]
          refine (HA.out WZ (Below.refl _ _)).mono ?_
          rintro e w2 ⟨rfl, hb2⟩
          obtain ⟨W3, hW3, hk3, hb3⟩ := new3 w2 (.int .i64 y1) (.string y2) (.bool y3) 33
          have HW3 := Lib.hid hW3
          have B3 : Hid (Below WZ.heap.size WZ W3) := btr hb2 hb3
          have X3 := Lib.hid hk3
          have hl3 : w2.heap.size < W3.heap.size := (Array.getElem?_eq_some_iff.1 hk3).1
          clear hW3 hk3 hb3 hb2
          go_wp2_with fail
          rw [← HW3.out]
          refine (HR.out W3 B3.out).mono ?_
          rintro e w4 ⟨rfl, hb4⟩
          obtain ⟨W5, hW5, hk5, hb5⟩ := new3 w4 (.int .i64 y1) (.string y2) (.bool y3) 27
          have HW5 := Lib.hid hW5
          have B5 : Hid (Below WZ.heap.size WZ W5) := btr B3.out (btr hb4 hb5)
          have X5a := Lib.hid (((btr hb4 hb5).block _ hl3).trans X3.out)
          have X5b := Lib.hid hk5
          have hl5a : w2.heap.size < W5.heap.size := (Array.getElem?_eq_some_iff.1 X5a.out).1
          have hl5b : w4.heap.size < W5.heap.size := (Array.getElem?_eq_some_iff.1 hk5).1
          clear hW5 hk5 hb5 hb4
          go_wp2_with fail
          rw [← HW5.out]
          refine (HL.out W5 B5.out).mono ?_
          rintro e w6 ⟨rfl, hb6⟩
          obtain ⟨W7, hW7, hk7, hb7⟩ := new3 w6 (.int .i64 0) (.string x2) (.bool false) 33
          have HW7 := Lib.hid hW7
          have B7 : Hid (Below WZ.heap.size WZ W7) := btr B5.out (btr hb6 hb7)
          have X7a := Lib.hid (((btr hb6 hb7).block _ hl5a).trans X5a.out)
          have X7b := Lib.hid (((btr hb6 hb7).block _ hl5b).trans X5b.out)
          have hl7a : w2.heap.size < W7.heap.size := (Array.getElem?_eq_some_iff.1 X7a.out).1
          have hl7b : w4.heap.size < W7.heap.size := (Array.getElem?_eq_some_iff.1 X7b.out).1
          obtain ⟨z0, z1, z2⟩ := cells3 hk7
          clear hW7 hk7 hb7 hb6
          go_wp2_with fail
          rw [← HW7.out]
          go_quiet (fail)
          go_wp2_with fail
          refine (HAL.out _ (btr B7.out (bdrN W7 _))).mono ?_
          rintro e w8 ⟨va, rfl, hra, hb8⟩
          obtain ⟨a8, c8, rfl, hr8⟩ := hra
          have R8 : Hid (RdV (.slice a8 0 c8) [] w8) := ⟨a8, c8, rfl, hr8⟩
          have B8 : Hid (Below W7.heap.size W7 w8) := (bdrN W7 _).trans hb8
          have HS8 := Lib.hid (HSA.out w8 a8 c8 R8.out (btr B7.out B8.out))
          clear hr8 hb8
          go_wp2_with fail
          refine HS8.out.mono ?_
          rintro e w9 ⟨rfl, hb9⟩
          have B9 : Hid (Below W7.heap.size W7 w9) := btr B8.out hb9
          obtain ⟨q0, q1, q2⟩ := cells3 ((B9.out.block _ hl7a).trans X7a.out)
          obtain ⟨s0, s1, s2⟩ := cells3 ((B9.out.block _ hl7b).trans X7b.out)
          clear hb9
          go_wp2_with fail
          refine (awake_c w9).mono ?_
          rintro e w10 ⟨rfl, hb⟩
          have HB10 : Hid (Below w.heap.size w w10) := HK.out.bel.trans ((btr B7.out (btr B9.out hb)).mono HK.out.bel.size)
          clear hb
          go_wp2
          go_ret
          exact ⟨rfl, HB10.out⟩
    · have hjl : ¬ (j : Int) < (len : Int) := by omega
      have HK' : Hid (Kc 40 c gb (runL ts j) w wr) := HK.out.up hj40
      have HO' := HO
      obtain ⟨WZ, hWZ⟩ : ∃ WZ, WZ = wr := ⟨_, rfl⟩
      rw [← hWZ] at HK' HO'
      have RW := Lib.hid hWZ
      clear hWZ HK HO
      generalize runL ts j = L at HK' HO' ⊢
      have HK := HK'
      have HO := HO'
      clear HK' HO'
      have HA := Lib.hid (fun W (hb : Below WZ.heap.size WZ W) => At_c w.heap.size c 40 gb L rev W (HK.out.go hb).ch (by omega) HK.out.asc)
      have hnl : L.length ≤ 40 := HK.out.ch.le
      have HR := Lib.hid (fun W (hb : Below WZ.heap.size WZ W) => AtR_c aov cpv L rev W ((HO.out.rd).go hb) HK.out.asc (by omega))
      have HL := Lib.hid (fun W (hb : Below WZ.heap.size WZ W) => Last_c w.heap.size c 40 gb L W (HK.out.go hb).ch (by omega))
      have HAL := Lib.hid (fun W (hb : Below WZ.heap.size WZ W) => All_c w.heap.size c 40 gb L W (HK.out.go hb).ch (by omega))
      have HSA := Lib.hid (fun W a1 c1 (h1 : RdV (.slice a1 L.length c1) L W) (hb : Below WZ.heap.size WZ W) => same_c a1 aov c1 cpv L W h1 ((HO.out.rd).go hb) (by omega))
      revert HA HR
      generalize atB L rev = ab
      generalize atV L rev = av
      obtain ⟨y1, y2, y3⟩ := av
      intro HA HR
      unfold vb aggV at HA HR HL
      simp only at HA HR
      have hE : ∀ W : World, (binOp .eql 33 (.agg #[.int .i64 y1, .string y2, .bool y3]) (.agg #[.int .i64 y1, .string y2, .bool y3])).run Try.prog W = .ok (.bool true) W := fun W => by rw [eqlV]; simp
      by_cases hL : 0 < L.length
      · obtain ⟨m, hm⟩ : ∃ m, m = L.length - 1 := ⟨_, rfl⟩
        have hml : m < L.length := by omega
        have HLV : Hid (lastV L = L[m]) := by show _ = _; unfold lastV; rw [← hm, getD_at hml]
        have HLB : Hid (lastB L = true) := by show _ = _; unfold lastB; simpa using hL
        rw [HLV.out, HLB.out] at HL
        have e1 : ((L.length : Int) - 1).toNat = m := by omega
        have e2 : (0 : Int) ≤ (L.length : Int) - 1 := by omega
        have e3 : (1 : Int) ≤ (L.length : Int) := by omega
        have e4 : (L.length : Int) - 1 < (L.length : Int) := by omega
        have e5 : (0 : Int) < (L.length : Int) := by omega
        have e6 : decide ((0 : Int) < (L.length : Int)) = true := decide_eq_true e5
        obtain ⟨g0, of0, hao, hg0, hat0⟩ := rdv_at HO.out.rd hL
        subst hao
        obtain ⟨r0, _, _⟩ := hat0 m hml
        have hat0' := Lib.hid r0
        have HG0 := Lib.hid hg0
        clear hat0 hg0 r0
        obtain ⟨⟨x1, x2, x3⟩, hx⟩ : ∃ x : Ver, L[m] = x := ⟨_, rfl⟩
        rw [hx] at HL hat0'
        simp only at HL hat0'
        clear hx HLV HLB
        go_wp2_with fail
        rw [← RW.out]
        refine (HA.out WZ (Below.refl _ _)).mono ?_
        rintro e w2 ⟨rfl, hb2⟩
        obtain ⟨W3, hW3, hk3, hb3⟩ := new3 w2 (.int .i64 y1) (.string y2) (.bool y3) 33
        have HW3 := Lib.hid hW3
        have B3 : Hid (Below WZ.heap.size WZ W3) := btr hb2 hb3
        have X3 := Lib.hid hk3
        have hl3 : w2.heap.size < W3.heap.size := (Array.getElem?_eq_some_iff.1 hk3).1
        clear hW3 hk3 hb3 hb2
        go_wp2_with fail
        rw [← HW3.out]
        refine (HR.out W3 B3.out).mono ?_
        rintro e w4 ⟨rfl, hb4⟩
        obtain ⟨W5, hW5, hk5, hb5⟩ := new3 w4 (.int .i64 y1) (.string y2) (.bool y3) 27
        have HW5 := Lib.hid hW5
        have B5 : Hid (Below WZ.heap.size WZ W5) := btr B3.out (btr hb4 hb5)
        have X5a := Lib.hid (((btr hb4 hb5).block _ hl3).trans X3.out)
        have X5b := Lib.hid hk5
        have hl5a : w2.heap.size < W5.heap.size := (Array.getElem?_eq_some_iff.1 X5a.out).1
        have hl5b : w4.heap.size < W5.heap.size := (Array.getElem?_eq_some_iff.1 hk5).1
        clear hW5 hk5 hb5 hb4
        go_wp2_with fail
        rw [← HW5.out]
        refine (HL.out W5 B5.out).mono ?_
        rintro e w6 ⟨rfl, hb6⟩
        obtain ⟨W7, hW7, hk7, hb7⟩ := new3 w6 (.int .i64 x1) (.string x2) (.bool x3) 33
        have HW7 := Lib.hid hW7
        have B7 : Hid (Below WZ.heap.size WZ W7) := btr B5.out (btr hb6 hb7)
        have X7a := Lib.hid (((btr hb6 hb7).block _ hl5a).trans X5a.out)
        have X7b := Lib.hid (((btr hb6 hb7).block _ hl5b).trans X5b.out)
        have hl7a : w2.heap.size < W7.heap.size := (Array.getElem?_eq_some_iff.1 X7a.out).1
        have hl7b : w4.heap.size < W7.heap.size := (Array.getElem?_eq_some_iff.1 X7b.out).1
        obtain ⟨z0, z1, z2⟩ := cells3 hk7
        have t0 : W7.cell? ⟨g0, of0 + m * 3, none⟩ = some (.int .i64 x1) := (B7.out.cell (p := ⟨g0, of0 + m * 3, none⟩) HG0.out).trans hat0'.out
        have t0' : W7.cell? ⟨g0, of0 + (L.length - 1) * 3, none⟩ = some (.int .i64 x1) := by rw [← hm]; exact t0
        clear hW7 hk7 hb7 hb6
        go_wp2_with fail
        rw [← HW7.out]
        go_quiet (fail)
        go_wp2_with fail
        refine (HAL.out _ (btr B7.out (bdrN W7 _))).mono ?_
        rintro e w8 ⟨va, rfl, hra, hb8⟩
        obtain ⟨a8, c8, rfl, hr8⟩ := hra
        have R8 : Hid (RdV (.slice a8 L.length c8) L w8) := ⟨a8, c8, rfl, hr8⟩
        have B8 : Hid (Below W7.heap.size W7 w8) := (bdrN W7 _).trans hb8
        have HS8 := Lib.hid (HSA.out w8 a8 c8 R8.out (btr B7.out B8.out))
        clear hr8 hb8
        go_wp2_with fail
        refine HS8.out.mono ?_
        rintro e w9 ⟨rfl, hb9⟩
        have B9 : Hid (Below W7.heap.size W7 w9) := btr B8.out hb9
        obtain ⟨q0, q1, q2⟩ := cells3 ((B9.out.block _ hl7a).trans X7a.out)
        obtain ⟨s0, s1, s2⟩ := cells3 ((B9.out.block _ hl7b).trans X7b.out)
        clear hb9
        go_wp2_with fail
        refine (awake_c w9).mono ?_
        rintro e w10 ⟨rfl, hb⟩
        have HB10 : Hid (Below w.heap.size w w10) := HK.out.bel.trans ((btr B7.out (btr B9.out hb)).mono HK.out.bel.size)
        clear hb
        go_wp2
        go_ret
        exact ⟨rfl, HB10.out⟩
      · obtain rfl : L = [] := List.eq_nil_of_length_eq_zero (by omega)
        have HLV : Hid (lastV [] = zeroV) := rfl
        have HLB : Hid (lastB [] = false) := rfl
        rw [HLV.out, HLB.out] at HL
        unfold zeroV at HL
        simp only at HL
        obtain ⟨x2, hx2⟩ : ∃ x2 : ByteArray, x2 = ByteArray.empty := ⟨_, rfl⟩
        rw [← hx2] at HL
        clear hx2 hL
        go_wp2_with fail
        rw [← RW.out]
        refine (HA.out WZ (Below.refl _ _)).mono ?_
        rintro e w2 ⟨rfl, hb2⟩
        obtain ⟨W3, hW3, hk3, hb3⟩ := new3 w2 (.int .i64 y1) (.string y2) (.bool y3) 33
        have HW3 := Lib.hid hW3
        have B3 : Hid (Below WZ.heap.size WZ W3) := btr hb2 hb3
        have X3 := Lib.hid hk3
        have hl3 : w2.heap.size < W3.heap.size := (Array.getElem?_eq_some_iff.1 hk3).1
        clear hW3 hk3 hb3 hb2
        go_wp2_with fail
        rw [← HW3.out]
        refine (HR.out W3 B3.out).mono ?_
        rintro e w4 ⟨rfl, hb4⟩
        obtain ⟨W5, hW5, hk5, hb5⟩ := new3 w4 (.int .i64 y1) (.string y2) (.bool y3) 27
        have HW5 := Lib.hid hW5
        have B5 : Hid (Below WZ.heap.size WZ W5) := btr B3.out (btr hb4 hb5)
        have X5a := Lib.hid (((btr hb4 hb5).block _ hl3).trans X3.out)
        have X5b := Lib.hid hk5
        have hl5a : w2.heap.size < W5.heap.size := (Array.getElem?_eq_some_iff.1 X5a.out).1
        have hl5b : w4.heap.size < W5.heap.size := (Array.getElem?_eq_some_iff.1 hk5).1
        clear hW5 hk5 hb5 hb4
        go_wp2_with fail
        rw [← HW5.out]
        refine (HL.out W5 B5.out).mono ?_
        rintro e w6 ⟨rfl, hb6⟩
        obtain ⟨W7, hW7, hk7, hb7⟩ := new3 w6 (.int .i64 0) (.string x2) (.bool false) 33
        have HW7 := Lib.hid hW7
        have B7 : Hid (Below WZ.heap.size WZ W7) := btr B5.out (btr hb6 hb7)
        have X7a := Lib.hid (((btr hb6 hb7).block _ hl5a).trans X5a.out)
        have X7b := Lib.hid (((btr hb6 hb7).block _ hl5b).trans X5b.out)
        have hl7a : w2.heap.size < W7.heap.size := (Array.getElem?_eq_some_iff.1 X7a.out).1
        have hl7b : w4.heap.size < W7.heap.size := (Array.getElem?_eq_some_iff.1 X7b.out).1
        obtain ⟨z0, z1, z2⟩ := cells3 hk7
        clear hW7 hk7 hb7 hb6
        go_wp2_with fail
        rw [← HW7.out]
        go_quiet (fail)
        go_wp2_with fail
        refine (HAL.out _ (btr B7.out (bdrN W7 _))).mono ?_
        rintro e w8 ⟨va, rfl, hra, hb8⟩
        obtain ⟨a8, c8, rfl, hr8⟩ := hra
        have R8 : Hid (RdV (.slice a8 0 c8) [] w8) := ⟨a8, c8, rfl, hr8⟩
        have B8 : Hid (Below W7.heap.size W7 w8) := (bdrN W7 _).trans hb8
        have HS8 := Lib.hid (HSA.out w8 a8 c8 R8.out (btr B7.out B8.out))
        clear hr8 hb8
        go_wp2_with fail
        refine HS8.out.mono ?_
        rintro e w9 ⟨rfl, hb9⟩
        have B9 : Hid (Below W7.heap.size W7 w9) := btr B8.out hb9
        obtain ⟨q0, q1, q2⟩ := cells3 ((B9.out.block _ hl7a).trans X7a.out)
        obtain ⟨s0, s1, s2⟩ := cells3 ((B9.out.block _ hl7b).trans X7b.out)
        clear hb9
        go_wp2_with fail
        refine (awake_c w9).mono ?_
        rintro e w10 ⟨rfl, hb⟩
        have HB10 : Hid (Below w.heap.size w w10) := HK.out.bel.trans ((btr B7.out (btr B9.out hb)).mono HK.out.bel.size)
        clear hb
        go_wp2
        go_ret
        exact ⟨rfl, HB10.out⟩
end Go.Proofs.Ytfilammedofdoaa.Cn
