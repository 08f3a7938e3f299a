/- The law ChainCompact answers yes; no other condition. -/
import Derived.Test.YtfilammedofdoaaCnU
namespace Go.Proofs.Ytfilammedofdoaa.Cn
open Go.RowKit Go.Lib Go.Shelf Go.Sort
set_option linter.unusedSimpArgs false
set_option linter.unusedVariables false

set_option maxRecDepth 100000 in
set_option maxHeartbeats 1000000 in
theorem compact_law (a : Option Addr) (len cap : Nat) (ts : List OpT) (rev att : Int) (w : World) (h : IsOps w a len ts) :
    Calls Try.prog 4 #[.slice a len cap, .int .i64 rev, .int .i64 att] w fun e w' => e = .returned (.bool true) ∧ Below w.heap.size w w' := by
  have HI := Lib.hid h
  have hlen := h.2.1
  have htl := h.1
  unfold maxLen at hlen
  clear h
  obtain ⟨c, hc⟩ : ∃ c, c = w.heap.size := ⟨_, rfl⟩
  have HC := Lib.hid hc
  clear hc
  go_enter Try.func4, Try.ntmps4
  go_wp2_with fail
  refine (New_c w).mono ?_
  rintro e w1 ⟨rfl, hn, hb⟩
  rw [← HC.out] at hn ⊢
  have K0 : Hid (Kc 0 c none [] w w1) := ⟨by rw [← HC.out]; exact hn, by rw [← HC.out] at hb ⊢; exact hb, List.Pairwise.nil, by rw [HC.out]; exact Nat.le_refl _⟩
  clear hn hb
  go_wp2
  go_loopw [8, 20] (fun wv iv wr => ∃ (j : Nat) (gb : Option Nat), j ≤ len ∧ iv = .int .i64 j ∧ Hid (Kc (min j 30) c gb (runL ts (min j 30)) w wr) ∧ Hid (OwV 27 w.heap.size wv (runL ts (min j 30)) wr)) (fun _ iv _ => len - (intOf iv).toNat)
  case atStart => exact ⟨0, none, by omega, rfl, K0, Lib.hid (World.ownsRow_nil _ _ _ _)⟩
  case round =>
    clear K0
    obtain ⟨j, gb, hj, rfl, HK, HO⟩ := hrel
    obtain ⟨aov, cpv, hv⟩ := own_lenV HO.out
    subst hv
    by_cases hlt : j < len
    · obtain ⟨g, off, hao, hg, hat⟩ := (HI.out.go HK.out.bel).2.2 (by omega)
      subst hao
      obtain ⟨p0, p1, p2, p3, p4, p5⟩ := hat j (by omega)
      have hj0 : (0 : Int) ≤ (j : Int) := by omega
      have hjl : (j : Int) < (len : Int) := by omega
      have HSU : Hid (j < 30 → runL ts (min (j + 1) 30) = stepL (runL ts (min j 30)) (ts[j]'(by omega))) := fun h30 => by
        rw [show min (j + 1) 30 = j + 1 by omega, show min j 30 = j by omega]; exact runL_succ (by omega)
      obtain ⟨⟨k, ⟨v1, v2, v3⟩, b, r⟩, ho⟩ : ∃ o : OpT, ts[j]'(by omega) = o := ⟨_, rfl⟩
      rw [ho] at p0 p1 p2 p3 p4 p5 HSU
      simp only at p0 p1 p2 p3 p4 p5
      clear hat ho
      obtain ⟨W1, hW1, hk1, hb1⟩ := new6 wr (.int .i64 k) (.int .i64 v1) (.string v2) (.bool v3) (.bool b) (.int .i64 r) 29
      have HW1 := Lib.hid hW1
      have hgn : g ≠ wr.heap.size := by omega
      have K1 := Lib.hid (HK.out.go hb1)
      have O1 := Lib.hid (HO.out.go hb1)
      clear hW1 hk1 hb1 HK HO
      by_cases h30 : j < 30
      · have h30' : (j : Int) < 30 := by omega
        have HST := Lib.hid (step_c K1.out (runL_bnd ts _) _ O1.out (k, (v1, v2, v3), b, r) (by omega))
        unfold opV at HST
        go_wp2_with fail
        rw [← HW1.out]
        refine HST.out.mono ?_
        rintro e w2 ⟨x, gb', rfl, hk, ho⟩
        rw [← HSU.out h30] at hk ho
        have K2 : Hid (Kc (min (j + 1) 30) c gb' (runL ts (min (j + 1) 30)) w w2) := hk.up (by omega)
        have O2 := Lib.hid ho
        clear hk ho
        go_wp2
        go_roundw
        case rel => exact ⟨j + 1, gb', by omega, by go_num, K2, O2⟩
        case measure => simp [intOf]; omega
      · have h30' : ¬ (j : Int) < 30 := by omega
        have e30 : min (j + 1) 30 = min j 30 := by omega
        go_wp2
        rw [← HW1.out]
        go_roundw
        case rel => exact ⟨j + 1, gb, by omega, by go_num, by rw [e30]; exact K1, by rw [e30]; exact O1⟩
        case measure => simp [intOf]; omega
    · have hjl : ¬ (j : Int) < (len : Int) := by omega
      have hN30 : min j 30 ≤ 30 := by omega
      have HK' : Hid (Kc 30 c gb (runL ts (min j 30)) w wr) := HK.out.up hN30
      clear HK HO
      revert HK'
      generalize runL ts (min j 30) = L
      intro HK
      obtain ⟨at', hat⟩ : ∃ at' : Int, at' = if att < rev then rev else att := ⟨_, rfl⟩
      have hle : rev ≤ at' := by rw [hat]; split <;> omega
      obtain ⟨hab, hav⟩ := at_cmp HK.out.asc hle
      have HA1 : Hid (∀ W, Kc 30 c gb L w W → Calls Try.prog 9 #[.pointer (some ⟨c, 0, none⟩), .int .i64 at'] W fun e V => e = .returned (vb (atV L at') (atB L at')) ∧ Kc 30 c gb L w V ∧ Below W.heap.size W V) := fun W h => (At_c w.heap.size c 30 gb L at' W h.ch (by omega) h.asc).mono fun e V hq => ⟨hq.1, h.go hq.2, hq.2⟩
      have HA2 : Hid (∀ gb W, Kc 30 c gb (cmp L rev) w W → Calls Try.prog 9 #[.pointer (some ⟨c, 0, none⟩), .int .i64 at'] W fun e V => e = .returned (vb (atV L at') (atB L at')) ∧ Kc 30 c gb (cmp L rev) w V ∧ Below W.heap.size W V) := fun gb W h => (At_c w.heap.size c 30 gb (cmp L rev) at' W h.ch (by omega) h.asc).mono fun e V hq => ⟨by rw [hq.1, hab, hav], h.go hq.2, hq.2⟩
      have HL1 : Hid (∀ W, Kc 30 c gb L w W → Calls Try.prog 8 #[.pointer (some ⟨c, 0, none⟩)] W fun e V => e = .returned (.int .i64 (L.length : Nat)) ∧ Kc 30 c gb L w V ∧ Below W.heap.size W V) := fun W h => (Len_c w.heap.size c 30 gb L W h.ch (by omega)).mono fun e V ⟨he, n, hn⟩ => ⟨he, by rw [hn]; exact h.go (bdrN W n), by rw [hn]; exact bdrN W n⟩
      have HL2 : Hid (∀ gb W, Kc 30 c gb (cmp L rev) w W → Calls Try.prog 8 #[.pointer (some ⟨c, 0, none⟩)] W fun e V => e = .returned (.int .i64 ((cmp L rev).length : Nat)) ∧ Kc 30 c gb (cmp L rev) w V) := fun gb W h => (Len_c w.heap.size c 30 gb (cmp L rev) W h.ch (by omega)).mono fun e V ⟨he, n, hn⟩ => ⟨he, by rw [hn]; exact h.go (bdrN W n)⟩
      have HCO : Hid (∀ W, Kc 30 c gb L w W → Calls Try.prog 15 #[.pointer (some ⟨c, 0, none⟩), .int .i64 rev] W fun e V => e = .returned (.int .i64 (spr L rev : Nat)) ∧ Chg c gb W V ∧ ∃ gb', Kc 30 c gb' (cmp L rev) w V) := fun W h => (Compact_c w.heap.size c 30 gb L rev W h.ch (by omega) h.bel.size h.asc).mono fun e V hq => by
        have hch := hq.2.choose_spec.2.1
        have hs := h.step hq (cmp_asc h.asc rev)
        exact ⟨hs.1, hch, hs.2⟩
      have HSP : Hid (∀ gb W, Kc 30 c gb (cmp L rev) w W → Calls Try.prog 16 #[.pointer (some ⟨c, 0, none⟩), .int .i64 rev] W fun e V => e = .returned (.int .i64 0) ∧ Kc 30 c gb (cmp L rev) w V) := fun gb W h => (Spare_c w.heap.size c 30 gb (cmp L rev) rev W h.ch (by omega) h.asc).mono fun e V hq => ⟨by rw [hq.1, spr_cmp HK.out.asc rev]; rfl, h.go hq.2⟩
      have HGC := Lib.hid HK.out.ch.lt
      have HGB := Lib.hid (fun g hg => (HK.out.ch.base g hg).2)
      have hcl := cmp_len L rev
      have hsl : spr L rev ≤ L.length := Nat.le_trans (spr_le L rev) (cnt_le L rev)
      have hnl : L.length ≤ 30 := HK.out.ch.le
      have hnk : (L.length : Int) - (spr L rev : Nat) = ((cmp L rev).length : Nat) := by omega
      have hkz : (0 : Int) ≤ ((spr L rev : Nat) : Int) := by omega
      clear hab hav hcl
      revert HA1 HA2 HL1 HL2 HCO hnk hkz hsl hnl
      generalize atB L at' = ab
      generalize (cmp L rev).length = p
      generalize spr L rev = kk
      generalize L.length = n
      generalize atV L at' = av
      obtain ⟨v1, v2, v3⟩ := av
      intro HA1 HA2 HL1 HL2 HCO hnk hkz hsl hnl
      unfold vb aggV at HA1 HA2
      simp only at HA1 HA2
      have hE : ∀ W : World, (binOp .eql 33 (.agg #[.int .i64 v1, .string v2, .bool v3]) (.agg #[.int .i64 v1, .string v2, .bool v3])).run Try.prog W = .ok (.bool true) W := fun W => by rw [eqlV]; simp
      by_cases hlt2 : att < rev
      · rw [if_pos hlt2] at hat
        subst hat
        clear hle
        go_wp2_with fail
        refine (HA1.out _ HK.out).mono ?_
        rintro e w2 ⟨rfl, hk, hb2⟩
        have LS2 := Lib.hid hb2.size
        obtain ⟨W3, hW3, hk3, hb3⟩ := new3 w2 (.int .i64 v1) (.string v2) (.bool v3) 33
        have HW3 := Lib.hid hW3
        have K3 := Lib.hid (hk.go hb3)
        have X3 := Lib.hid hk3
        have hl3 : w2.heap.size < W3.heap.size := (Array.getElem?_eq_some_iff.1 hk3).1
        clear hW3 hk hk3 hb3 hb2
        go_wp2_with fail
        rw [← HW3.out]
        refine (HL1.out _ K3.out).mono ?_
        rintro e w4 ⟨rfl, hk, hb4⟩
        have K4 := Lib.hid hk
        have X4 := Lib.hid ((hb4.block _ hl3).trans X3.out)
        clear hk hb4
        go_wp2_with fail
        refine (HCO.out _ K4.out).mono ?_
        rintro e w5 ⟨rfl, hch, gb', hk⟩
        have K5 := Lib.hid hk
        have X5 : Hid (w5.heap[w2.heap.size]? = some (.cells #[.int .i64 v1, .string v2, .bool v3] 33 (0, 0))) := (hch.block _ (Array.getElem?_eq_some_iff.1 X4.out).1 (by have := HGC.out; have := LS2.out; omega) (fun hg => by have := HGB.out _ hg.symm; have := LS2.out; omega)).trans X4.out
        clear hk hch
        go_wp2_with fail
        refine (HA2.out _ _ K5.out).mono ?_
        rintro e w6 ⟨rfl, hk, hb6⟩
        have hk6 := (hb6.block _ (Array.getElem?_eq_some_iff.1 X5.out).1).trans X5.out
        obtain ⟨W7, hW7, hk7, hb7⟩ := new3 w6 (.int .i64 v1) (.string v2) (.bool v3) 33
        have HW7 := Lib.hid hW7
        have K7 := Lib.hid (hk.go hb7)
        obtain ⟨d0, d1, d2⟩ := cells3 hk6
        have hl6 : w2.heap.size < w6.heap.size := (Array.getElem?_eq_some_iff.1 hk6).1
        have hn6 : w2.heap.size ≠ w6.heap.size := by omega
        clear hW7 hk hk7 hb7 hb6 hk6
        go_wp2_with fail
        rw [← HW7.out]
        refine (HSP.out _ _ K7.out).mono ?_
        rintro e w8 ⟨rfl, hk⟩
        have K8 := Lib.hid hk
        clear hk
        go_wp2_with fail
        refine (HL2.out _ _ K8.out).mono ?_
        rintro e w9 ⟨rfl, hk⟩
        have K9 := Lib.hid hk
        clear hk
        go_wp2_with fail
        refine (awake_c w9).mono ?_
        rintro e w10 ⟨rfl, hb⟩
        have HB10 : Hid (Below w.heap.size w w10) := K9.out.bel.trans (hb.mono K9.out.bel.size)
        clear hb
        go_wp2
        go_ret
        exact ⟨rfl, HB10.out⟩
      · rw [if_neg hlt2] at hat
        subst hat
        clear hle
        go_wp2_with fail
        refine (HA1.out _ HK.out).mono ?_
        rintro e w2 ⟨rfl, hk, hb2⟩
        have LS2 := Lib.hid hb2.size
        obtain ⟨W3, hW3, hk3, hb3⟩ := new3 w2 (.int .i64 v1) (.string v2) (.bool v3) 33
        have HW3 := Lib.hid hW3
        have K3 := Lib.hid (hk.go hb3)
        have X3 := Lib.hid hk3
        have hl3 : w2.heap.size < W3.heap.size := (Array.getElem?_eq_some_iff.1 hk3).1
        clear hW3 hk hk3 hb3 hb2
        go_wp2_with fail
        rw [← HW3.out]
        refine (HL1.out _ K3.out).mono ?_
        rintro e w4 ⟨rfl, hk, hb4⟩
        have K4 := Lib.hid hk
        have X4 := Lib.hid ((hb4.block _ hl3).trans X3.out)
        clear hk hb4
        go_wp2_with fail
        refine (HCO.out _ K4.out).mono ?_
        rintro e w5 ⟨rfl, hch, gb', hk⟩
        have K5 := Lib.hid hk
        have X5 : Hid (w5.heap[w2.heap.size]? = some (.cells #[.int .i64 v1, .string v2, .bool v3] 33 (0, 0))) := (hch.block _ (Array.getElem?_eq_some_iff.1 X4.out).1 (by have := HGC.out; have := LS2.out; omega) (fun hg => by have := HGB.out _ hg.symm; have := LS2.out; omega)).trans X4.out
        clear hk hch
        go_wp2_with fail
        refine (HA2.out _ _ K5.out).mono ?_
        rintro e w6 ⟨rfl, hk, hb6⟩
        have hk6 := (hb6.block _ (Array.getElem?_eq_some_iff.1 X5.out).1).trans X5.out
        obtain ⟨W7, hW7, hk7, hb7⟩ := new3 w6 (.int .i64 v1) (.string v2) (.bool v3) 33
        have HW7 := Lib.hid hW7
        have K7 := Lib.hid (hk.go hb7)
        obtain ⟨d0, d1, d2⟩ := cells3 hk6
        have hl6 : w2.heap.size < w6.heap.size := (Array.getElem?_eq_some_iff.1 hk6).1
        have hn6 : w2.heap.size ≠ w6.heap.size := by omega
        clear hW7 hk hk7 hb7 hb6 hk6
        go_wp2_with fail
        rw [← HW7.out]
        refine (HSP.out _ _ K7.out).mono ?_
        rintro e w8 ⟨rfl, hk⟩
        have K8 := Lib.hid hk
        clear hk
        go_wp2_with fail
        refine (HL2.out _ _ K8.out).mono ?_
        rintro e w9 ⟨rfl, hk⟩
        have K9 := Lib.hid hk
        clear hk
        go_wp2_with fail
        refine (awake_c w9).mono ?_
        rintro e w10 ⟨rfl, hb⟩
        have HB10 : Hid (Below w.heap.size w w10) := K9.out.bel.trans (hb.mono K9.out.bel.size)
        clear hb
        go_wp2
        go_ret
        exact ⟨rfl, HB10.out⟩
end Go.Proofs.Ytfilammedofdoaa.Cn
