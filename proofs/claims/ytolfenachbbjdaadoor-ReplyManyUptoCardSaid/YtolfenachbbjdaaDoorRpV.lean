/- ReplyMany's walk: for replies whose fields are within bounds; where the library's variable MaxLen holds a number and its tables lie as the program's text lays them. -/
import Derived.Test.YtolfenachbbjdaaDoorRpR
namespace Go.Proofs.YtolfenachbbjdaaDoor.Rp.Mn
open Go.RowKit Ch Hd Rp
set_option linter.unusedSimpArgs false
set_option linter.unusedVariables false

theorem stoodR : Tryd.prog.stoodInHeld 64 = false := by kernel_rfl
theorem eq_bl {w V : World} {n : Int} {v : Value} {body : ByteArray} (h : EQ w n v body V) : Below w.heap.size w V := h.1
/-- one reply of those that came in, cut, and written or refused -/
theorem one_of {w : World} {n : Int} {ao : Option Addr} {cp : Nat} {fs : List FB} {body : ByteArray} (hrd : RdF (.slice ao fs.length cp) fs w) (hlc : fs.length ≤ cp) (hcm : cp ≤ maxLen) (hwf : (Lit.int .i64 n).wf = true) (hbz : body.size ≤ maxLen) (hfl : (fs.flatMap fldB).length ≤ 1398102) :
    ∃ (aq : Option Addr) (cq : Nat) (fz : List FB) (bz E : ByteArray) (e0 : Int), RdF (.slice aq fz.length cq) fz w ∧ fz.length ≤ 6 ∧ bz.size ≤ 200 ∧ (fz.flatMap fldB).length ≤ (fs.flatMap fldB).length ∧
      (∀ W, Calls Tryd.prog 8 #[.agg #[.int .i64 n, .slice ao fs.length cp, .string body]] W fun e w' => e = .returned (.agg #[.int .i64 n, .slice aq fz.length cq, .string bz]) ∧ Below W.heap.size W w') ∧
      (∀ W, RdF (.slice aq fz.length cq) fz W → Calls Tryd.prog 10 #[.agg #[.int .i64 n, .slice aq fz.length cq, .string bz]] W fun e w' => ∃ au cu, e = .returned (.agg #[.int .i64 n, .slice au fz.length cu, .string bz]) ∧ RdF (.slice au fz.length cu) fz w' ∧ Below W.heap.size W w') ∧
      (∀ au cu W, RdF (.slice au fz.length cu) fz W → Nu.Tabs W → Calls Tryd.prog 9 #[.agg #[.int .i64 n, .slice au fz.length cu, .string bz]] W fun e w' => e = .returned (.tuple #[.string E, .int .i64 e0]) ∧ Below W.heap.size W w') ∧
      ((e0 = 0 ∧ rightB n fz bz = true ∧ E.data.toList = encL n fz bz ∧ E.size ≤ (fz.flatMap fldB).length + 1000) ∨ e0 = 3) := by
  unfold maxLen at hcm hbz
  obtain ⟨hn0, hn1⟩ := bounds_i64 hwf
  obtain ⟨aq, cq, hq, hcut⟩ := cut_c n ao cp fs body w hrd hlc hcm hbz
  have hfle := flat_le fs 6
  have hfm : ∀ f ∈ fs.take 6, (fldB f).length ≤ ((fs.take 6).flatMap fldB).length := fun f hf => by
    obtain ⟨l1, l2, e⟩ := List.append_of_mem hf
    rw [e, List.flatMap_append, List.flatMap_cons, List.length_append, List.length_append]; omega
  have hsm : ∀ f ∈ fs.take 6, smallF f := fun f hf => by
    have h1 := hfm f hf
    rw [fld_len] at h1
    exact ⟨by omega, by omega⟩
  have hl6 : (fs.take 6).length ≤ 6 := by rw [List.length_take]; omega
  have hb200 : (mkS (body.data.toList.take 200)).size ≤ 200 := by rw [size_mkS, List.length_take]; omega
  have hen := encL_len n hn0 hn1 (fs.take 6) (mkS (body.data.toList.take 200)) hb200
  have HO := fun W (h : RdF (.slice aq (fs.take 6).length cq) (fs.take 6) W) => (Ours_c n _ (fs.take 6) (mkS (body.data.toList.take 200)) W h (by omega)).mono (R' := fun e w' => ∃ au cu, e = .returned (.agg #[.int .i64 n, .slice au (fs.take 6).length cu, .string (mkS (body.data.toList.take 200))]) ∧ RdF (.slice au (fs.take 6).length cu) (fs.take 6) w' ∧ Below W.heap.size W w') fun e w' hh => by
    obtain ⟨au, cu, he, ho, hb⟩ := hh
    exact ⟨au, cu, he, ho.rd, hb⟩
  have HE := fun au cu W (h : RdF (.slice au (fs.take 6).length cu) (fs.take 6) W) (ht : Nu.Tabs W) => Encode_c n _ (fs.take 6) (mkS (body.data.toList.take 200)) W hn0 hn1 h hsm ht (by omega) (by omega) (by omega)
  cases hqq : rightB n (fs.take 6) (mkS (body.data.toList.take 200)) with
  | false =>
    simp only [hqq] at HE
    exact ⟨aq, cq, _, _, ⟨#[]⟩, 3, hq, hl6, hb200, hfle, hcut, HO, HE, .inr rfl⟩
  | true =>
    simp only [hqq] at HE
    exact ⟨aq, cq, _, _, _, 0, hq, hl6, hb200, hfle, hcut, HO, HE, .inl ⟨rfl, hqq, data_mkS _, by rw [size_mkS]; exact hen.1⟩⟩
/-- one reply of those that were written, read again -/
theorem two_of {w : World} {x : Rp} (hx : GoodW w x) (hw : (Lit.int .i64 x.1).wf = true) (s : ByteArray) (more : List UInt8) (hs : s.data.toList = encW x ++ more) (hsz : s.size ≤ 1403102) :
    1 ≤ (encW x).length ∧ (encW x).length ≤ s.size ∧
    (∀ W, Mx W → Nu.Tabs W → Calls Tryd.prog 14 #[.string s] W fun e w' => ∃ ap cp, e = .returned (.tuple #[.agg #[.int .i64 x.1, .slice ap x.2.2.1.length cp, .string x.2.2.2], .int .i64 ((encW x).length : Int), .int .i64 0]) ∧ RdF (.slice ap x.2.2.1.length cp) x.2.2.1 w' ∧ Below W.heap.size W w') ∧
    (∀ v W, RdF v x.2.2.1 W → Calls Tryd.prog 16 #[.agg #[.int .i64 x.1, v, .string x.2.2.2]] W fun e w' => ∃ au cu, e = .returned (.agg #[.int .i64 x.1, .slice au x.2.2.1.length cu, .string x.2.2.2]) ∧ RdF (.slice au x.2.2.1.length cu) x.2.2.1 w' ∧ Below W.heap.size W w') ∧
    (∀ a1 c1 a2 c2 W, RdF (.slice a1 x.2.2.1.length c1) x.2.2.1 W → RdF (.slice a2 x.2.2.1.length c2) x.2.2.1 W → Calls Tryd.prog 15 #[.agg #[.int .i64 x.1, .slice a1 x.2.2.1.length c1, .string x.2.2.2], .agg #[.int .i64 x.1, .slice a2 x.2.2.1.length c2, .string x.2.2.2]] W fun e w' => e = .returned (.bool true) ∧ Below W.heap.size W w') := by
  obtain ⟨_, _, hr, h6, h2, hf⟩ := hx
  obtain ⟨hn0, hn1⟩ := bounds_i64 hw
  have hen := encL_len x.1 hn0 hn1 x.2.2.1 x.2.2.2 h2
  have hsl := Lib.size_eq s
  rw [hs, List.length_append] at hsl
  unfold flR at hf
  have hpo := paOk_back hr (by omega) (by omega) (by omega) s more hs (by omega)
  have hpb := par_back hr (by omega) s more hs
  refine ⟨by have := hen.2; unfold encW; omega, by omega, fun W h1 h2' => (Parse_c s W hpo h1 h2').mono fun e w' hh => ?_, fun v W h => (Plain_c x.1 v x.2.2.1 x.2.2.2 W h (by omega)).mono fun e w' hh => ?_, fun a1 c1 a2 c2 W g1 g2 => Same_c x.1 a1 a2 c1 c2 x.2.2.1 x.2.2.2 W g1 g2 (by omega) stoodR⟩
  · rw [hpb] at hh
    obtain ⟨⟨ap, cp, h3, h4⟩, h5⟩ := hh
    exact ⟨ap, cp, h3, h4.rd, h5⟩
  · obtain ⟨au, cu, he, ho, hb⟩ := hh
    exact ⟨au, cu, he, ho.rd, hb⟩
set_option maxRecDepth 100000 in
set_option maxHeartbeats 16000000 in
theorem many (a : Option Addr) (cap : Nat) (rs : List Rp) (w : World) (HT : Hid (Nu.Tabs w)) (HM : Hid (Mx w)) (hlen : rs.length ≤ 9223372036854775807) (HG : Hid (∀ r ∈ rs, GoodA w r)) (HTOT : Hid (totF rs ≤ 1398102))
    (HA : Hid (0 < rs.length → ∃ g off, a = some ⟨g, off, none⟩ ∧ g < w.heap.size ∧ ∀ i (hi : i < rs.length), w.cell? ⟨g, off + i * 3, none⟩ = some (.int .i64 rs[i].1) ∧ w.cell? ⟨g, off + i * 3 + 1, none⟩ = some rs[i].2.1 ∧ w.cell? ⟨g, off + i * 3 + 2, none⟩ = some (.string rs[i].2.2.2))) :
    Calls Tryd.prog 7 #[.slice a rs.length cap] w fun e w' => e = .returned (.bool true) ∧ Below w.heap.size w w' := by
  obtain ⟨i0, hi, hz0, hz1, hz2⟩ := info_parts infoP
  go_enter Tryd.func7, Tryd.ntmps7
  go_wp2
  go_loopw [3, 4, 16] (fun av wv i wr => ∃ (j : Nat) (A : ByteArray) (ws : List Rp), j ≤ rs.length ∧ i = .int .i64 j ∧ av = .string A ∧ Hid (Below w.heap.size w wr) ∧ Hid (OwR w.heap.size wv ws wr) ∧ Hid (∀ x ∈ ws, GoodW w x ∧ (Lit.int .i64 x.1).wf = true) ∧ Hid (A.data.toList = ws.flatMap encW) ∧ Hid (A.size ≤ totF (rs.take j) + 1000 * ws.length) ∧ Hid (ws.length ≤ 5 ∧ ws.length ≤ j)) (fun _ _ i _ => rs.length - (intOf i).toNat)
  case atStart => exact ⟨0, ⟨#[]⟩, [], by omega, rfl, rfl, Lib.hid (Below.refl _ _), Lib.hid (World.ownsRow_nil _ _ _ _), Lib.hid (fun x hx => by cases hx), Lib.hid rfl, Lib.hid (Nat.zero_le _), Lib.hid ⟨Nat.zero_le _, Nat.le_refl _⟩⟩
  case round =>
    obtain ⟨j, A, ws, hj, rfl, rfl, HB, HO, HGW, HAD, HSZ, HLW⟩ := hrel
    by_cases hlt : j < rs.length
    · obtain ⟨g, off, rfl, hg, hat⟩ := HA.out (by omega)
      obtain ⟨p0, p1, p2⟩ := hat j hlt
      obtain ⟨⟨ao, cp, hv, hlc, hcm⟩, hrd, hwf, hbz⟩ := HG.out _ (List.getElem_mem hlt)
      have hts := tot_snoc hlt
      have htm := tot_mem (List.getElem_mem hlt)
      have hj0 : (0 : Int) ≤ (j : Int) := by omega
      have hjl : (j : Int) < (rs.length : Int) := by omega
      have q0 := (HB.out.cell (p := ⟨g, off + j * 3, none⟩) hg).trans p0
      have q1 := (HB.out.cell (p := ⟨g, off + j * 3 + 1, none⟩) hg).trans p1
      have q2 := (HB.out.cell (p := ⟨g, off + j * 3 + 2, none⟩) hg).trans p2
      have hg2 : g < wr.heap.size := Nat.lt_of_lt_of_le hg HB.out.size
      have hg3 : g ≠ wr.heap.size := by omega
      clear hat p0 p1 p2
      unfold flR at hts htm
      obtain ⟨⟨n, v, fs, body⟩, hr⟩ : ∃ r : Rp, rs[j] = r := ⟨_, rfl⟩
      rw [hr] at q0 q1 q2 hv hlc hrd hwf hbz hts htm
      simp only at q0 q1 q2 hv hlc hrd hwf hbz hts htm
      subst hv
      have HTT := HTOT.out
      obtain ⟨aq, cq, fz, bz, E, e0, hq, hl6, hb2, hflz, hcut, hour, henc, he⟩ := one_of hrd hlc hcm hwf hbz (by omega)
      have HR := Lib.hid hq
      have HCUT := Lib.hid hcut
      have HOUR := Lib.hid hour
      have HENC := Lib.hid henc
      have HWF := Lib.hid hwf
      obtain ⟨flN, hflN⟩ : ∃ k, k = (fs.flatMap fldB).length := ⟨_, rfl⟩
      rw [← hflN] at hts hflz htm
      have HFN := Lib.hid hflz
      have HTS := Lib.hid hts
      clear hr hcut hour henc hq hrd hlc hcm hwf hbz hts htm hflz HTT hflN
      by_cases h5 : j < 5
      · have h5' : (j : Int) < 5 := by omega
        rcases he with he | rfl
        · obtain ⟨rfl, hright, hEd, hEs⟩ := he
          have HRI := Lib.hid hright
          have HED := Lib.hid hEd
          have HES : Hid (E.size ≤ flN + 1000) := by show _ ≤ _; have := HFN.out; omega
          have hA1 : A.size ≤ 3000000 := by have := HSZ.out; have := HTOT.out; have := tot_take rs j; have := HLW.out; omega
          have hE1 : E.size ≤ 3000000 := by have := HES.out; have := HTS.out; have := HTOT.out; have := tot_take rs (j + 1); omega
          clear hright hEd hEs
          go_wp2_with fail
          refine (HCUT.out _).mono ?_
          rintro e w1 ⟨rfl, hb1⟩
          obtain ⟨hk1, hl1, hB1⟩ := in3 hb1
          obtain ⟨c0, c1, c2⟩ := cells3 hk1
          have z0 := frz2 hk1 0
          have z1 := frz2 hk1 1
          have z2 := frz2 hk1 2
          obtain ⟨W2, hW2, HK2⟩ : ∃ W2, W2 = ((w1.setCell ⟨wr.heap.size, 0, none⟩ (.int .i64 n)).setCell ⟨wr.heap.size, 1, none⟩ (.slice aq fz.length cq)).setCell ⟨wr.heap.size, 2, none⟩ (.string bz) ∧ Hid (EQ wr n (.slice aq fz.length cq) bz W2) :=
            ⟨_, rfl, ((hB1.setCell (p := ⟨wr.heap.size, 0, none⟩) (Nat.le_refl _) _).setCell (p := ⟨wr.heap.size, 1, none⟩) (Nat.le_refl _) _).setCell (p := ⟨wr.heap.size, 2, none⟩) (Nat.le_refl _) _, st3 hk1 _ _ _⟩
          have HWE := Lib.hid hW2
          obtain ⟨d0, d1, d2⟩ := cells3 HK2.out.2
          rw [hW2] at d0 d1 d2
          clear hb1 hk1 hB1 hW2
          go_wp2_with fail
          rw [← HWE.out] at d0 d1 d2 ⊢
          clear HWE c0 c1 c2 z0 z1 z2
          refine (HOUR.out _ (HR.out.go (HB.out.trans (HK2.out.1.mono HB.out.size)))).mono ?_
          rintro e w3 ⟨au, cu, rfl, hr3, hb3⟩
          have HR3 := Lib.hid hr3
          have HK3 := Lib.hid (HK2.out.go hb3)
          clear hr3 hb3 d0 d1 d2
          go_wp2_with fail
          refine (HENC.out _ _ _ HR3.out (HT.out.go (HB.out.trans (HK3.out.1.mono HB.out.size)))).mono ?_
          rintro e w4 ⟨rfl, hb4⟩
          have HK4 := Lib.hid (HK3.out.go hb4)
          clear hb4
          obtain ⟨d0, d1, d2⟩ := cells3 HK4.out.2
          have HB4 : Hid (Below w.heap.size w w4) := HB.out.trans (HK4.out.1.mono HB.out.size)
          have HO4 := Lib.hid (HO.out.go HK4.out.1)
          have HX : Hid (GoodW w (n, .slice aq fz.length cq, fz, bz) ∧ (Lit.int .i64 n).wf = true) := ⟨⟨⟨aq, cq, rfl⟩, HR.out, HRI.out, hl6, hb2, by show (fz.flatMap fldB).length ≤ _; have := HFN.out; have := HTS.out; have := HTOT.out; have := tot_take rs (j + 1); omega⟩, HWF.out⟩
          have HD : Hid (∃ W2, W2 = w4.alloc (.cells #[.int .i64 n, .slice aq fz.length cq, .string bz] 24) ∧ W2.heap[w4.heap.size]? = some (.cells #[.int .i64 n, .slice aq fz.length cq, .string bz] 24 (0, 0)) ∧ Below w4.heap.size w4 W2) :=
            ⟨_, rfl, heap_alloc_new w4 _, (Below.refl w4.heap.size w4).alloc (Nat.le_refl _) _⟩
          obtain ⟨W6, hW6, hk6, hbW⟩ := HD.out
          have HK6 := Lib.hid hk6
          have HW6 := Lib.hid hW6
          have HIW := Lib.hid (HO4.out.go hbW)
          unfold OwR at HIW
          have HB6 : Hid (Below w.heap.size w W6) := HB4.out.trans (hbW.mono HB4.out.size)
          have HRS := Lib.hid (rC_snoc ws (n, .slice aq fz.length cq, fz, bz))
          have HLS : Hid ((ws ++ [(n, Value.slice aq fz.length cq, fz, bz)]).length = ws.length + 1) := by show _ = _; simp
          have C1 : Hid (∀ (i : Nat) (v : Value), [Value.int .i64 n, .slice aq fz.length cq, .string bz][i]? = some v → W6.cell? ((⟨w4.heap.size, 0, none⟩ : Addr).add i) = some v) := fun i v hv => by
            have hj5 : i < 3 := by
              rcases Nat.lt_or_ge i 3 with h | h
              · exact h
              · rw [List.getElem?_eq_none (by show 3 ≤ i; exact h)] at hv; cases hv
            have ea : (⟨w4.heap.size, 0, none⟩ : Addr).add i = ⟨w4.heap.size, i, none⟩ := by unfold Addr.add; split <;> simp_all
            rw [ea, cell_of_row _ _ i _ _ _ HK6.out]
            match i, hj5 with
            | 0, _ => exact hv
            | 1, _ => exact hv
            | 2, _ => exact hv
          have C2 : Hid (∀ u ∈ [Value.int .i64 n, .slice aq fz.length cq, .string bz], u.oneCell' = true) := fun v hv => by simp at hv; rcases hv with rfl | rfl | rfl <;> rfl
          have C3 : Hid (ws.length + 1 ≤ maxLen) := by show _ ≤ _; unfold maxLen; have := HLW.out; omega
          have C4 : Hid ((ws.length + 1) * 48 ≤ 140737488355328) := by show _ ≤ _; have := HLW.out; omega
          have C5 : Hid (w.heap.size ≤ W6.heap.size) := HB6.out.size
          have hso : w4.heap.size ≤ W6.heap.size := hbW.size
          have hl4 : wr.heap.size < w4.heap.size := HK4.out.lt
          have HAE : Hid ((A ++ E).data.toList = (ws ++ [(n, Value.slice aq fz.length cq, fz, bz)]).flatMap encW) := by
            show _ = _
            rw [List.flatMap_append, List.flatMap_singleton, ← HAD.out]
            show _ = _ ++ encL n fz bz
            rw [← HED.out]; simp
          have HS4 : Hid ((A ++ E).size ≤ totF (rs.take (j + 1)) + 1000 * (ws ++ [(n, Value.slice aq fz.length cq, fz, bz)]).length) := by
            show _ ≤ _
            rw [ByteArray.size_append, HLS.out]
            have := HSZ.out; have := HTS.out; have := HES.out; omega
          have HL4 : Hid ((ws ++ [(n, Value.slice aq fz.length cq, fz, bz)]).length ≤ 5 ∧ (ws ++ [(n, Value.slice aq fz.length cq, fz, bz)]).length ≤ j + 1) := by
            show _ ∧ _
            rw [HLS.out]
            have := HLW.out.2
            exact ⟨by omega, by omega⟩
          have HG4 : Hid (∀ x ∈ ws ++ [(n, Value.slice aq fz.length cq, fz, bz)], GoodW w x ∧ (Lit.int .i64 x.1).wf = true) := fun x hx => by
            rcases List.mem_append.1 hx with g | g
            · exact HGW.out x g
            · obtain rfl := List.mem_singleton.1 g
              exact HX.out
          clear HD hk6 hW6 hbW
          go_wp2_with (at_builtin; rw [← HW6.out]; refine wpList_append_own _ rfl _ _ 48 rfl (w.heap.size) 24 i0 _ 3 48 Tryd.underlying48 hi hz0 hz1 hz2 rfl (by decide) _ _ _ rfl HIW.out ⟨w4.heap.size, 0, none⟩ 1 1 [.int .i64 n, .slice aq fz.length cq, .string bz] rfl rfl C1.out C2.out C3.out C4.out C5.out ?_)
          intro v' w7 hown' hgrow _
          have HB7 : Hid (Below w.heap.size w w7) := HB6.out.grown hgrow HB6.out.size (fun q hq => (HIW.out.lt q hq).1)
          have HO7 : Hid (OwR w.heap.size v' (ws ++ [(n, Value.slice aq fz.length cq, fz, bz)]) w7) := by
            show World.ownsRow _ _ _ _ _ _ _
            rw [HRS.out, HLS.out]
            exact hown'
          obtain ⟨ap, cq', hv'⟩ := own_len hown'
          subst hv'
          clear hown' hgrow HIW
          go_wp2
          go_roundw
          case rel => exact ⟨j + 1, A ++ E, _, by omega, by go_num, rfl, HB7, HO7, HG4, HAE, HS4, HL4⟩
          case measure => simp [intOf]; omega
        · go_wp2_with fail
          refine (HCUT.out _).mono ?_
          rintro e w1 ⟨rfl, hb1⟩
          obtain ⟨hk1, hl1, hB1⟩ := in3 hb1
          obtain ⟨c0, c1, c2⟩ := cells3 hk1
          have z0 := frz2 hk1 0
          have z1 := frz2 hk1 1
          have z2 := frz2 hk1 2
          obtain ⟨W2, hW2, HK2⟩ : ∃ W2, W2 = ((w1.setCell ⟨wr.heap.size, 0, none⟩ (.int .i64 n)).setCell ⟨wr.heap.size, 1, none⟩ (.slice aq fz.length cq)).setCell ⟨wr.heap.size, 2, none⟩ (.string bz) ∧ Hid (EQ wr n (.slice aq fz.length cq) bz W2) :=
            ⟨_, rfl, ((hB1.setCell (p := ⟨wr.heap.size, 0, none⟩) (Nat.le_refl _) _).setCell (p := ⟨wr.heap.size, 1, none⟩) (Nat.le_refl _) _).setCell (p := ⟨wr.heap.size, 2, none⟩) (Nat.le_refl _) _, st3 hk1 _ _ _⟩
          have HWE := Lib.hid hW2
          obtain ⟨d0, d1, d2⟩ := cells3 HK2.out.2
          rw [hW2] at d0 d1 d2
          clear hb1 hk1 hB1 hW2
          go_wp2_with fail
          rw [← HWE.out] at d0 d1 d2 ⊢
          clear HWE c0 c1 c2 z0 z1 z2
          refine (HOUR.out _ (HR.out.go (HB.out.trans (HK2.out.1.mono HB.out.size)))).mono ?_
          rintro e w3 ⟨au, cu, rfl, hr3, hb3⟩
          have HR3 := Lib.hid hr3
          have HK3 := Lib.hid (HK2.out.go hb3)
          clear hr3 hb3 d0 d1 d2
          go_wp2_with fail
          refine (HENC.out _ _ _ HR3.out (HT.out.go (HB.out.trans (HK3.out.1.mono HB.out.size)))).mono ?_
          rintro e w4 ⟨rfl, hb4⟩
          have HK4 := Lib.hid (HK3.out.go hb4)
          clear hb4
          obtain ⟨d0, d1, d2⟩ := cells3 HK4.out.2
          have HB4 : Hid (Below w.heap.size w w4) := HB.out.trans (HK4.out.1.mono HB.out.size)
          have HO4 := Lib.hid (HO.out.go HK4.out.1)
          have HS4 : Hid (A.size ≤ totF (rs.take (j + 1)) + 1000 * ws.length) := by show _ ≤ _; have := HSZ.out; have := HTS.out; omega
          have HL4 : Hid (ws.length ≤ 5 ∧ ws.length ≤ j + 1) := ⟨HLW.out.1, by have := HLW.out.2; omega⟩
          go_wp2
          go_roundw
          case rel => exact ⟨j + 1, A, ws, by omega, by go_num, rfl, HB4, HO4, HGW, HAD, HS4, HL4⟩
          case measure => simp [intOf]; omega
      · have h5' : ¬ (j : Int) < 5 := by omega
        clear he
        go_wp2_with fail
        refine (HCUT.out _).mono ?_
        rintro e w1 ⟨rfl, hb1⟩
        obtain ⟨hk1, hl1, hB1⟩ := in3 hb1
        obtain ⟨c0, c1, c2⟩ := cells3 hk1
        have z0 := frz2 hk1 0
        have z1 := frz2 hk1 1
        have z2 := frz2 hk1 2
        obtain ⟨W2, hW2, HK2⟩ : ∃ W2, W2 = ((w1.setCell ⟨wr.heap.size, 0, none⟩ (.int .i64 n)).setCell ⟨wr.heap.size, 1, none⟩ (.slice aq fz.length cq)).setCell ⟨wr.heap.size, 2, none⟩ (.string bz) ∧ Hid (EQ wr n (.slice aq fz.length cq) bz W2) :=
          ⟨_, rfl, ((hB1.setCell (p := ⟨wr.heap.size, 0, none⟩) (Nat.le_refl _) _).setCell (p := ⟨wr.heap.size, 1, none⟩) (Nat.le_refl _) _).setCell (p := ⟨wr.heap.size, 2, none⟩) (Nat.le_refl _) _, st3 hk1 _ _ _⟩
        have HWE := Lib.hid hW2
        obtain ⟨d0, d1, d2⟩ := cells3 HK2.out.2
        rw [hW2] at d0 d1 d2
        clear hb1 hk1 hB1 hW2
        go_wp2_with fail
        rw [← HWE.out] at d0 d1 d2 ⊢
        clear HWE c0 c1 c2 z0 z1 z2
        refine (HOUR.out _ (HR.out.go (HB.out.trans (HK2.out.1.mono HB.out.size)))).mono ?_
        rintro e w3 ⟨au, cu, rfl, hr3, hb3⟩
        have HR3 := Lib.hid hr3
        have HK3 := Lib.hid (HK2.out.go hb3)
        clear hr3 hb3 d0 d1 d2
        go_wp2_with fail
        refine (HENC.out _ _ _ HR3.out (HT.out.go (HB.out.trans (HK3.out.1.mono HB.out.size)))).mono ?_
        rintro e w4 ⟨rfl, hb4⟩
        have HK4 := Lib.hid (HK3.out.go hb4)
        clear hb4
        obtain ⟨d0, d1, d2⟩ := cells3 HK4.out.2
        have HB4 : Hid (Below w.heap.size w w4) := HB.out.trans (HK4.out.1.mono HB.out.size)
        have HO4 := Lib.hid (HO.out.go HK4.out.1)
        have HS4 : Hid (A.size ≤ totF (rs.take (j + 1)) + 1000 * ws.length) := by show _ ≤ _; have := HSZ.out; have := HTS.out; omega
        have HL4 : Hid (ws.length ≤ 5 ∧ ws.length ≤ j + 1) := ⟨HLW.out.1, by have := HLW.out.2; omega⟩
        go_wp2
        go_roundw
        case rel => exact ⟨j + 1, A, ws, by omega, by go_num, rfl, HB4, HO4, HGW, HAD, HS4, HL4⟩
        case measure => simp [intOf]; omega
    · have hje : ¬ (j : Int) < (rs.length : Int) := by omega
      have HAZ : Hid (A.size ≤ 1403102) := by show _ ≤ _; have := HSZ.out; have := HTOT.out; have := tot_take rs j; have := HLW.out; omega
      obtain ⟨ai, ci, hv⟩ := own_len HO.out
      subst hv
      clear HSZ
      have hwl : ws.length ≤ 5 := HLW.out.1
      go_wp2
      clear hje
      go_loopw [3, 45] (fun av i wz => ∃ (k : Nat) (A2 : ByteArray), k ≤ ws.length ∧ i = .int .i64 k ∧ av = .string A2 ∧ Hid (Below w.heap.size w wz) ∧ Hid (OwR w.heap.size (.slice ai ws.length ci) ws wz) ∧ Hid (A2.data.toList = (ws.drop k).flatMap encW) ∧ Hid (A2.size ≤ 1403102)) (fun _ i _ => ws.length - (intOf i).toNat)
      case atStart => exact ⟨0, A, Nat.zero_le _, rfl, rfl, HB, HO, HAD, HAZ⟩
      case round =>
        rename World => wq
        clear HB HO HAD HAZ
        obtain ⟨k, A2, hk, rfl, rfl, HB, HO, HAD, HAZ⟩ := hrel
        by_cases hlt : k < ws.length
        · obtain ⟨g, cap', e1, hg, hat⟩ := owr_at HO.out (by omega)
          injection e1 with e1a e1b e1c
          subst e1a e1c
          obtain ⟨p0, p1, p2⟩ := hat k hlt
          obtain ⟨hgw, hwf⟩ := HGW.out _ (List.getElem_mem hlt)
          have hdr : ws.drop k = ws[k] :: ws.drop (k + 1) := List.drop_eq_getElem_cons hlt
          have hs : A2.data.toList = encW ws[k] ++ (ws.drop (k + 1)).flatMap encW := by rw [HAD.out, hdr, List.flatMap_cons]
          obtain ⟨hn1, hn2, hpar, hpla, hsam⟩ := two_of hgw hwf A2 _ hs HAZ.out
          have hex : (A2.extract (encW ws[k]).length A2.size).data.toList = (ws.drop (k + 1)).flatMap encW := by rw [extN, hs, data_mkS, List.drop_left]
          obtain ⟨⟨aq, cq, hv⟩, hrd, _⟩ := hgw
          have hk0 : (0 : Int) ≤ (k : Int) := by omega
          have hkl : (k : Int) < (ws.length : Int) := by omega
          have hg3 : g ≠ wq.heap.size := by omega
          have HEX := Lib.hid hex
          clear hat hdr hs hex hwf
          generalize (encW ws[k]).length = ln at hn1 hn2 hpar HEX
          obtain ⟨⟨n, v, fz, bz⟩, hr⟩ : ∃ r : Rp, ws[k] = r := ⟨_, rfl⟩
          rw [hr] at p0 p1 p2 hpar hpla hsam hv hrd
          simp only at p0 p1 p2 hpar hpla hsam hv hrd
          subst hv
          have HR := Lib.hid hrd
          have HPAR := Lib.hid hpar
          have HPL := Lib.hid hpla
          have HSM := Lib.hid (fun a1 c1 W h1 h2 => hsam a1 c1 aq cq W h1 h2)
          have hl0 : (1 : Int) ≤ (ln : Int) := by omega
          have hl1 : (ln : Int) ≤ (A2.size : Int) := by omega
          have hA2 : A2.size ≤ 1403102 := HAZ.out
          have hd1 : decide ((ln : Int) < 1) = false := decide_eq_false (by omega)
          have hd2 : decide ((A2.size : Int) < (ln : Int)) = false := decide_eq_false (by omega)
          have HXZ : Hid ((A2.extract ln A2.size).size ≤ 1403102) := by show _ ≤ _; rw [ByteArray.size_extract]; omega
          have HN := Lib.hid (EQ.new wq n (.slice aq fz.length cq) bz)
          clear hr hpar hpla hsam hrd
          go_wp2_with fail
          refine (HPAR.out _ (HM.out.go (HB.out.trans (HN.out.1.mono HB.out.size))) (HT.out.go (HB.out.trans (HN.out.1.mono HB.out.size)))).mono ?_
          rintro e w5 ⟨ap, cp, rfl, hr5, hb5⟩
          have HK5 := Lib.hid (HN.out.go hb5)
          obtain ⟨W6, hW6, HK6, HN6, HR6⟩ : ∃ W6, W6 = w5.alloc (.cells #[.int .i64 n, .slice ap fz.length cp, .string bz] 31) ∧ Hid (EQ wq n (.slice aq fz.length cq) bz W6) ∧ Hid (W6.heap[w5.heap.size]? = some (.cells #[.int .i64 n, .slice ap fz.length cp, .string bz] 31 (0, 0))) ∧ Hid (RdF (.slice ap fz.length cp) fz W6) :=
            ⟨_, rfl, HK5.out.go ((Below.refl _ _).alloc (Nat.le_refl _) _), heap_alloc_new w5 _, hr5.go ((Below.refl _ _).alloc (Nat.le_refl _) _)⟩
          have HWE := Lib.hid hW6
          have HKD : Hid (EQ wq n (.slice aq fz.length cq) bz W6.drew) := HK6.out.drew
          have HRD : Hid (RdF (.slice ap fz.length cp) fz W6.drew) := HR6.out.go (by refine ⟨rfl, rfl, rfl, Nat.le_refl _, fun _ _ => rfl⟩)
          have HND : Hid (W6.drew.heap[w5.heap.size]? = some (.cells #[.int .i64 n, .slice ap fz.length cp, .string bz] 31 (0, 0))) := HN6.out
          have HC0 : Hid (W6.drew.cell? ⟨w5.heap.size, 0, none⟩ = some (.int .i64 n) ∧ W6.drew.cell? ⟨w5.heap.size, 1, none⟩ = some (.slice ap fz.length cp) ∧ W6.drew.cell? ⟨w5.heap.size, 2, none⟩ = some (.string bz) ∧ W6.drew.cell? ⟨wq.heap.size, 0, none⟩ = some (.int .i64 n) ∧ W6.drew.cell? ⟨wq.heap.size, 1, none⟩ = some (.slice aq fz.length cq) ∧ W6.drew.cell? ⟨wq.heap.size, 2, none⟩ = some (.string bz)) := ⟨(cells3 HND.out).1, (cells3 HND.out).2.1, (cells3 HND.out).2.2, cells3 HKD.out.2⟩
          clear hb5 hW6 hr5 HK6 HN6 HR6 p0 p1 p2
          go_wp2_with fail
          rw [← HWE.out]
          clear HWE
          obtain ⟨c0, c1, c2, c3, c4, c5⟩ := HC0.out
          go_region_held3 (fun V => V.cell? ⟨w5.heap.size, 0, none⟩ = some (.int .i64 n) ∧ V.cell? ⟨w5.heap.size, 1, none⟩ = some (.slice ap fz.length cp) ∧ V.cell? ⟨w5.heap.size, 2, none⟩ = some (.string bz) ∧ V.cell? ⟨wq.heap.size, 0, none⟩ = some (.int .i64 n) ∧ V.cell? ⟨wq.heap.size, 1, none⟩ = some (.slice aq fz.length cq) ∧ V.cell? ⟨wq.heap.size, 2, none⟩ = some (.string bz))
            (first | (with_reducible exact HC0.out) | (with_reducible exact HC7.out) | (with_reducible exact HC8.out))
            (first
              | (go_at_call 16; (with_reducible refine (HPL.out _ W6.drew HRD.out).mono ?_); rintro e w7 ⟨av, cv, rfl, ho7, hb7⟩; have HK7 := Lib.hid (HKD.out.go hb7); have HN7 : Hid (w7.heap[w5.heap.size]? = some (.cells #[.int .i64 n, .slice ap fz.length cp, .string bz] 31 (0, 0))) := (hb7.block _ (Array.getElem?_eq_some_iff.1 HND.out).1).trans HND.out; have HR7 := Lib.hid ho7; have HC7 : Hid (w7.cell? ⟨w5.heap.size, 0, none⟩ = some (.int .i64 n) ∧ w7.cell? ⟨w5.heap.size, 1, none⟩ = some (.slice ap fz.length cp) ∧ w7.cell? ⟨w5.heap.size, 2, none⟩ = some (.string bz) ∧ w7.cell? ⟨wq.heap.size, 0, none⟩ = some (.int .i64 n) ∧ w7.cell? ⟨wq.heap.size, 1, none⟩ = some (.slice aq fz.length cq) ∧ w7.cell? ⟨wq.heap.size, 2, none⟩ = some (.string bz)) := ⟨(cells3 HN7.out).1, (cells3 HN7.out).2.1, (cells3 HN7.out).2.2, cells3 HK7.out.2⟩; obtain ⟨e0, e1, e2, e3, e4, e5⟩ := HC7.out; clear ho7 hb7)
              | (go_at_call 15; (with_reducible refine (HSM.out _ _ w7 HR7.out (HR.out.go (HB.out.trans ((eq_bl HK7.out).mono HB.out.size)))).mono ?_); rintro e w8 ⟨rfl, hb8⟩; have HK8 := Lib.hid (HK7.out.go hb8); have HN8 : Hid (w8.heap[w5.heap.size]? = some (.cells #[.int .i64 n, .slice ap fz.length cp, .string bz] 31 (0, 0))) := (hb8.block _ (Array.getElem?_eq_some_iff.1 HN7.out).1).trans HN7.out; have HC8 : Hid (w8.cell? ⟨w5.heap.size, 0, none⟩ = some (.int .i64 n) ∧ w8.cell? ⟨w5.heap.size, 1, none⟩ = some (.slice ap fz.length cp) ∧ w8.cell? ⟨w5.heap.size, 2, none⟩ = some (.string bz) ∧ w8.cell? ⟨wq.heap.size, 0, none⟩ = some (.int .i64 n) ∧ w8.cell? ⟨wq.heap.size, 1, none⟩ = some (.slice aq fz.length cq) ∧ w8.cell? ⟨wq.heap.size, 2, none⟩ = some (.string bz)) := ⟨(cells3 HN8.out).1, (cells3 HN8.out).2.1, (cells3 HN8.out).2.2, cells3 HK8.out.2⟩; clear hb8))
          all_goals
            clear c0 c1 c2 c3 c4 c5 e0 e1 e2 e3 e4 e5
            have HB8 : Hid (Below w.heap.size w w8) := HB.out.trans ((eq_bl HK8.out).mono HB.out.size)
            have HO8 := Lib.hid (HO.out.go (eq_bl HK8.out))
            go_wp2
            go_roundw
            case rel => exact ⟨k + 1, A2.extract ln A2.size, by omega, by go_num, rfl, HB8, HO8, HEX, HXZ⟩
            case measure => simp [intOf]; omega
        · have hke : ws.length = k := by omega
          have hA0 : A2.toList.isEmpty = true := by rw [Lib.toList_data, HAD.out, List.drop_of_length_le (by omega)]; rfl
          go_wp2_with fail
          refine (awake_c _ (HT.out.go HB.out)).mono ?_
          rintro e w9 ⟨rfl, hb9⟩
          have HB9 : Hid (Below w.heap.size w w9) := HB.out.trans (hb9.mono HB.out.size)
          clear hb9
          go_wp2
          go_ret
          exact ⟨rfl, HB9.out⟩
end Go.Proofs.YtolfenachbbjdaaDoor.Rp.Mn
