/- The law ClogNext answers yes; no other condition. -/
import Derived.Test.YtcmcbocegdejjaaClT
namespace Go.Proofs.Ytcmcbocegdejjaa.Cl
open Go.RowKit Go.Lib Go.Shelf Go.Sort
set_option linter.unusedSimpArgs false
set_option linter.unusedVariables false

theorem PrX.of {c d : Nat} {m : Int} {s : LS} {w W : World} {gb gd : Option Nat} (h : Pr c gb d gd m s s w W) : PrX c d m s w W := ⟨gb, gd, h⟩
theorem PrX.go {c d : Nat} {m : Int} {s : LS} {w W V : World} (h : PrX c d m s w W) (hb : Below W.heap.size W V) : PrX c d m s w V := by
  obtain ⟨gb, gd, h⟩ := h
  exact ⟨gb, gd, h.go hb⟩
set_option maxRecDepth 100000 in
set_option maxHeartbeats 4000000 in
theorem next_law (m : Int) (a : Option Addr) (len cap : Nat) (ts : List OpT) (rev : Int) (key : ByteArray) (w : World) (h : IsOps w a len ts) :
    Calls Try.prog 4 #[.int .i64 m, .slice a len cap, .int .i64 rev, .string key] w fun e w' => e = .returned (.bool true) ∧ Below w.heap.size w w' := by
  obtain ⟨i0, hi, hz0, hz1, hz2⟩ := info_parts infoRE
  have HI := Lib.hid h
  have hlen := h.2.1
  have htl := h.1
  unfold maxLen at hlen
  clear h
  go_enter Try.func4, Try.ntmps4
  go_wp2_with fail
  refine (New_c m w).mono ?_
  rintro e w1 ⟨rfl, hn1, hb1⟩
  have HN1 := Lib.hid hn1
  have HB1 := Lib.hid hb1
  clear hn1 hb1
  go_wp2_with fail
  refine (New_r m w1).mono ?_
  rintro e w2 ⟨rfl, hn2, hb2⟩
  have K0 := Lib.hid (Pr.new HN1.out HB1.out hn2 hb2)
  clear hn2 hb2 HN1 HB1
  generalize w1.heap.size = d at K0 ⊢
  obtain ⟨c, hc⟩ : ∃ c, c = w.heap.size := ⟨_, rfl⟩
  rw [← hc] at K0 ⊢
  have HC := Lib.hid hc
  clear hc
  go_wp2
  go_loopw [30] (fun iv wr => ∃ (j : Nat) (gb gd : Option Nat), j ≤ len ∧ iv = .int .i64 j ∧ Hid (Pr c gb d gd m (runF m LS.zero ts (min j 20)) (runF m LS.zero ts (min j 20)) w wr)) (fun iv _ => len - (intOf iv).toNat)
  case atStart => exact ⟨0, none, none, by omega, rfl, K0⟩
  case round =>
    clear K0
    obtain ⟨j, gb, gd, hj, rfl, HK⟩ := hrel
    have HBD := Lib.hid (runF_bd m LS.zero ts (min j 20))
    by_cases hlt : j < len
    · obtain ⟨g, off, hao, hg, hat⟩ := (HI.out.go HK.out.bel).2.2.2 (by omega)
      subst hao
      obtain ⟨p0, p1⟩ := hat j (by omega)
      have hj0 : (0 : Int) ≤ (j : Int) := by omega
      have hjl : (j : Int) < (len : Int) := by omega
      have HRO := (HI.out.go HK.out.bel).2.2.1 (ts[j]'(by omega)) (List.getElem_mem _)
      have HSU : Hid (runF m LS.zero ts (j + 1) = adO m (runF m LS.zero ts j) (ts[j]'(by omega))) := runF_succ (by omega)
      obtain ⟨⟨k, v, cs⟩, ho⟩ : ∃ o : OpT, ts[j]'(by omega) = o := ⟨_, rfl⟩
      rw [ho] at p0 p1 HSU HRO
      simp only at p0 p1 HRO
      obtain ⟨av, cv, hv, _⟩ := HRO.1
      subst hv
      clear hat ho
      obtain ⟨W1, hW1, hk1, hb1⟩ := new2 wr (.int .i64 k) (.slice av cs.length cv) 29
      have HW1 := Lib.hid hW1
      have hgn : g ≠ wr.heap.size := by omega
      have K1 := Lib.hid (HK.out.go hb1)
      obtain ⟨q0, q1⟩ := cells2 hk1
      have HR1 := Lib.hid (HRO.1.go hb1)
      have HR2 := Lib.hid HRO.2
      clear hW1 hk1 hb1 HRO
      by_cases h20 : j < 20
      · have h20' : ¬ (20 : Int) ≤ (j : Int) := by omega
        have h20'' : (j : Int) < (20 : Int) := by omega
        have e1 : min j 20 = j := by omega
        have HAD := Lib.hid (add_c K1.out (k, .slice av cs.length cv, cs) HR1.out HR2.out (by have := HBD.out.1; have := zero_bd.1; omega) (by have := HBD.out.2; have := zero_bd.2; omega))
        unfold opV AdQ at HAD
        rw [e1, ← HSU.out, show j + 1 = min (j + 1) 20 by omega] at HAD
        clear e1
        revert HAD
        generalize hs' : runF m LS.zero ts (min (j + 1) 20) = s'
        have HS' := Lib.hid hs'
        clear hs'
        intro HAD
        go_wp2_with fail
        rw [← HW1.out]
        refine HAD.out.mono ?_
        rintro e w5 ⟨rfl, gb5, gd5, hP⟩
        have HP5 := Lib.hid hP
        clear hP
        go_wp2
        go_roundw
        case rel => exact ⟨j + 1, gb5, gd5, by omega, by go_num, by rw [HS'.out]; exact HP5⟩
        case measure => simp [intOf]; omega
      · have h20' : (20 : Int) ≤ (j : Int) := by omega
        have h20'' : ¬ (j : Int) < (20 : Int) := by omega
        have e1 : min (j + 1) 20 = min j 20 := by omega
        go_wp2
        rw [← HW1.out]
        go_roundw
        case rel => exact ⟨j + 1, gb, gd, by omega, by go_num, by rw [e1]; exact K1⟩
        case measure => simp [intOf]; omega
    · have hjl : ¬ (j : Int) < (len : Int) := by omega
      have hsl : (runF m LS.zero ts (min j 20)).all.length ≤ 1000000 := by have := HBD.out.1; have := zero_bd.1; omega
      have KZ := HK
      clear HBD HK
      revert hsl KZ
      generalize runF m LS.zero ts (min j 20) = L
      intro hsl KZ
      have hsn := Nat.le_trans (snc_len L rev) hsl
      have hfn := Nat.le_trans (fil_len key (sncL L rev)) hsn
      go_wp2_with fail
      refine (fits_c key wr).mono ?_
      rintro e w3 ⟨rfl, hk3, hb3⟩
      have K3 := Lib.hid (KZ.out.go hb3)
      have HNK := Lib.hid (NextK_c K3.out.lg K3.out.rs rev key wr.heap.size hk3 hsl)
      unfold NkQ at HNK
      have HSC := snc_cases L rev
      clear hk3 hb3 KZ
      rcases HSC with hE | ⟨hE, hL⟩ | ⟨hE, hL⟩
      · have hto : nxA L rev = L.la := by unfold nxA; rw [if_pos hE]
        rw [hE, hto] at HNK
        have HE := Lib.hid hE
        have HTO := Lib.hid hto
        clear hE hto
        go_wp2_with fail
        refine HNK.out.mono ?_
        rintro e w4 ⟨vx, rfl, hrx, hb4, _⟩
        have RX4 := Lib.hid hrx
        obtain ⟨ax, cx, rfl, _⟩ := hrx
        have K4 := Lib.hid (K3.out.go hb4)
        have HNA := Lib.hid (NextA_c K4.out.lg K4.out.rs rev hsl)
        unfold NkQ at HNA
        rw [HE.out, HTO.out] at HNA
        clear hb4 K3
        go_wp2_with fail
        refine HNA.out.mono ?_
        rintro e w5 ⟨vy, rfl, hry, hb5, _⟩
        have RX5 := Lib.hid (RX4.out.go hb5)
        have RY5 := Lib.hid hry
        obtain ⟨ay, cy, rfl, _⟩ := hry
        have K5 := Lib.hid (K4.out.go hb5)
        have HSR := Lib.hid (Since_r K5.out.rf rev hsl)
        rw [HE.out] at HSR
        clear hb5 K4 RX4
        go_wp2_with fail
        refine HSR.out.mono ?_
        rintro e w6 ⟨vw, rfl, hrw, hb6⟩
        have RX6 := Lib.hid (RX5.out.go hb6)
        have RY6 := Lib.hid (RY5.out.go hb6)
        have RW6 := Lib.hid hrw
        obtain ⟨aw, cw, rfl, _⟩ := hrw
        have K6 := Lib.hid (K5.out.go hb6)
        clear hb6 K5 RX5 RY5
        have HLA := Lib.hid (rfl : L.la = L.la)
        obtain ⟨b, hb⟩ : ∃ b, b = sncL L rev := ⟨_, rfl⟩
        rw [← hb] at RX6 RY6 RW6 hsn hfn ⊢
        clear hb
        go_wp2
        go_loopw [21, 90] (fun tv iv wq => ∃ i : Nat, i ≤ b.length ∧ iv = .int .i64 i ∧ Hid (wq.ownsRow w6.heap.size 53 4 tv (fil key (b.take i)).length (eC (fil key (b.take i)))) ∧ Hid (Below w6.heap.size w6 wq)) (fun _ iv _ => b.length - (intOf iv).toNat)
        case atStart => exact ⟨0, by omega, rfl, World.ownsRow_nil _ _ _ _, Below.refl _ _⟩
        case round =>
          rename World => wq
          obtain ⟨i, hi6, rfl, HO, HB⟩ := hrel
          obtain ⟨aot, capt, htv⟩ := own_form HO.out
          subst htv
          by_cases hlb : i < b.length
          · obtain ⟨g, o, hao, hg, hat⟩ := (RW6.out.go HB.out).at (by omega)
            subst hao
            obtain ⟨p0, p1, p2, p3⟩ := cell4 hat hlb
            have hi0 : (0 : Int) ≤ (i : Int) := by omega
            have hil : (i : Int) < (b.length : Int) := by omega
            have HTK := Lib.hid (fil_snoc (k := key) hlb)
            have hfl : (fil key (b.take i)).length ≤ i := Nat.le_trans (fil_len _ _) (by rw [List.length_take]; omega)
            obtain ⟨⟨x0, x1, x2, x3⟩, hx⟩ : ∃ x : Ent, b[i] = x := ⟨_, rfl⟩
            rw [hx] at p0 p1 p2 p3 HTK
            simp only at p0 p1 p2 p3
            generalize hT : fil key (b.take i) = T at HO HTK hfl
            obtain ⟨W2, hW2, hk2, hb2⟩ := new4 wq (.int .i64 x0) (.string x1) (.string x2) (.bool x3) 53
            have HW2 := Lib.hid hW2
            obtain ⟨d0, d1, d2, d3⟩ := cells4 hk2
            have HB2 : Hid (Below w6.heap.size w6 W2) := HB.out.trans (hb2.mono HB.out.size)
            have HO2 := Lib.hid (own_go HO.out hb2)
            have hgn : g ≠ wq.heap.size := by omega
            have hlw : wq.heap.size < W2.heap.size := (Array.getElem?_eq_some_iff.1 hk2).1
            clear hat hx hT hW2 hk2 hb2 HO HB
            by_cases hf : fit key (x1, x2, x3) = true
            · rw [if_pos hf] at HTK
              unfold fit at hf
              simp only at hf
              have D3 : Hid (T.length + 1 ≤ maxLen) := by show _ ≤ _; unfold maxLen; omega
              have D4 : Hid ((T.length + 1) * 48 ≤ 140737488355328) := by show _ ≤ _; omega
              obtain ⟨WB, hWB, hkB, hbB⟩ := new4 W2 (.int .i64 x0) (.string x1) (.string x2) (.bool x3) 53
              have HOB := Lib.hid (own_go HO2.out hbB)
              have HWB := Lib.hid hWB
              have HC6 : Hid (∀ i u, (encE (x0, x1, x2, x3))[i]? = some u → WB.cell? ((⟨W2.heap.size, 0, none⟩ : Addr).add i) = some u) := World.news_of_block (cs := #[.int .i64 x0, .string x1, .string x2, .bool x3]) hkB
              have HBB : Hid (Below w6.heap.size w6 WB) := HB2.out.trans (hbB.mono HB2.out.size)
              have D5 : Hid (w6.heap.size ≤ WB.heap.size) := HBB.out.size
              have DE := Lib.hid (encE_ok (x0, x1, x2, x3))
              clear hWB hkB hbB
              go_upto_region 20 with (fail)
              rw [← HW2.out]
              go_wp2_with (at_builtin; rw [← HWB.out]; refine wpList_append_own _ rfl _ _ 32 rfl w6.heap.size 53 i0 _ 4 48 Try.underlying32 hi hz0 hz1 hz2 rfl (by decide) _ _ _ rfl HOB.out ⟨W2.heap.size, 0, none⟩ 1 1 (encE (x0, x1, x2, x3)) rfl rfl HC6.out DE.out D3.out D4.out D5.out ?_)
              intro v4 V4 hown hgrow _
              have HBV : Hid (Below w6.heap.size w6 V4) := HBB.out.grown hgrow HBB.out.size (fun q hq => (HOB.out.lt q hq).1)
              have HOV : Hid (V4.ownsRow w6.heap.size 53 4 v4 (fil key (b.take (i + 1))).length (eC (fil key (b.take (i + 1))))) := by
                show World.ownsRow _ _ _ _ _ _ _
                rw [HTK.out, eC_snoc, List.length_append]
                exact hown
              obtain ⟨ap, cq, hv4⟩ := own_form hown
              subst hv4
              clear hown hgrow
              go_wp2
              go_roundw
              case rel => exact ⟨i + 1, by omega, by go_num, HOV, HBV⟩
              case measure => simp [intOf]; omega
            · rw [if_neg hf, List.append_nil] at HTK
              have hf2 : (x1.toList == key.toList) = false := by simpa [fit] using hf
              clear hf
              have HOV : Hid (W2.ownsRow w6.heap.size 53 4 (.slice aot T.length capt) (fil key (b.take (i + 1))).length (eC (fil key (b.take (i + 1))))) := by
                show World.ownsRow _ _ _ _ _ _ _
                rw [HTK.out]
                exact HO2.out
              go_wp2
              rw [← HW2.out]
              go_roundw
              case rel => exact ⟨i + 1, by omega, by go_num, HOV, HB2⟩
              case measure => simp [intOf]; omega
          · have hil : ¬ (i : Int) < (b.length : Int) := by omega
            have hii : i = b.length := by omega
            rw [hii, List.take_of_length_le (Nat.le_refl _)] at HO
            have RT := Lib.hid (own_rd HO.out)
            rw [hii, List.take_of_length_le (Nat.le_refl _)]
            have K7 := Lib.hid (K6.out.go HB.out)
            have RX7 := Lib.hid (RX6.out.go HB.out)
            have RY7 := Lib.hid (RY6.out.go HB.out)
            have RW7 := Lib.hid (RW6.out.go HB.out)
            clear HO hi6 hlb hii HB K6 RX6 RY6 RW6
            go_wp2_with fail
            refine (Same_c RX7.out RT.out hfn).mono ?_
            rintro e w8 ⟨rfl, hb8⟩
            have K8 := Lib.hid (K7.out.go hb8)
            have RY8 := Lib.hid (RY7.out.go hb8)
            have RW8 := Lib.hid (RW7.out.go hb8)
            clear hb8 K7 RX7 RY7 RW7 RT
            go_wp2_with fail
            refine (Same_c RY8.out RW8.out hsn).mono ?_
            rintro e w9 ⟨rfl, hb9⟩
            have K9 := Lib.hid (K8.out.go hb9)
            clear hb9 K8 RY8 RW8
            obtain ⟨vr, hvr, _, _⟩ := K9.out.rf.ex
            obtain ⟨r0, r1, r2, r3⟩ := cells4 hvr
            clear hvr r0 r1 r2
            go_wp2_with fail
            refine (awake_c w9).mono ?_
            rintro e w10 ⟨rfl, hb10⟩
            have B9 : Hid (Below w.heap.size w w10) := K9.out.bel.trans (hb10.mono K9.out.bel.size)
            clear hb10 K9 r3
            go_wp2
            go_ret
            exact ⟨rfl, B9.out⟩
      · have hto : nxA L rev = 0 := by unfold nxA; rw [hE]; rfl
        rw [hE, hL, hto] at HNK
        have HE := Lib.hid hE
        have HTO := Lib.hid hto
        have HLE := Lib.hid hL
        clear hE hto hL
        go_wp2_with fail
        refine HNK.out.mono ?_
        rintro e w4 ⟨vx, rfl, ⟨ax, cx, rfl, _⟩, hb4, _⟩
        have K4 := Lib.hid (K3.out.go hb4)
        have HNA := Lib.hid (NextA_c K4.out.lg K4.out.rs rev hsl)
        unfold NkQ at HNA
        rw [HE.out, HLE.out, HTO.out] at HNA
        clear hb4 K3
        go_wp2_with fail
        refine HNA.out.mono ?_
        rintro e w5 ⟨vy, rfl, ⟨ay, cy, rfl, _⟩, hb5, _⟩
        have K5 := Lib.hid (K4.out.go hb5)
        have HSR := Lib.hid (Since_r K5.out.rf rev hsl)
        rw [HE.out, HLE.out] at HSR
        clear hb5 K4
        go_wp2_with fail
        refine HSR.out.mono ?_
        rintro e w6 ⟨vw, rfl, ⟨aw, cw, rfl, _⟩, hb6⟩
        have K6 := Lib.hid (K5.out.go hb6)
        clear hb6 K5
        go_wp2_with fail
        refine (awake_c w6).mono ?_
        rintro e w9 ⟨rfl, hb9⟩
        have B9 : Hid (Below w.heap.size w w9) := K6.out.bel.trans (hb9.mono K6.out.bel.size)
        clear hb9 K6
        go_wp2
        go_ret
        exact ⟨rfl, B9.out⟩
      · have hto : nxA L rev = 0 := by unfold nxA; rw [hE]; rfl
        rw [hE, hL, hto] at HNK
        have HE := Lib.hid hE
        have HTO := Lib.hid hto
        have HLE := Lib.hid hL
        clear hE hto hL
        go_wp2_with fail
        refine HNK.out.mono ?_
        rintro e w4 ⟨vx, rfl, ⟨ax, cx, rfl, _⟩, hb4, _⟩
        have K4 := Lib.hid (K3.out.go hb4)
        have HNA := Lib.hid (NextA_c K4.out.lg K4.out.rs rev hsl)
        unfold NkQ at HNA
        rw [HE.out, HLE.out, HTO.out] at HNA
        clear hb4 K3
        go_wp2_with fail
        refine HNA.out.mono ?_
        rintro e w5 ⟨vy, rfl, ⟨ay, cy, rfl, _⟩, hb5, _⟩
        have K5 := Lib.hid (K4.out.go hb5)
        have HSR := Lib.hid (Since_r K5.out.rf rev hsl)
        rw [HE.out, HLE.out] at HSR
        clear hb5 K4
        go_wp2_with fail
        refine HSR.out.mono ?_
        rintro e w6 ⟨vw, rfl, ⟨aw, cw, rfl, _⟩, hb6⟩
        have K6 := Lib.hid (K5.out.go hb6)
        clear hb6 K5
        go_wp2_with fail
        refine (awake_c w6).mono ?_
        rintro e w9 ⟨rfl, hb9⟩
        have B9 : Hid (Below w.heap.size w w9) := K6.out.bel.trans (hb9.mono K6.out.bel.size)
        clear hb9 K6
        go_wp2
        go_ret
        exact ⟨rfl, B9.out⟩
end Go.Proofs.Ytcmcbocegdejjaa.Cl
