/- The law ClogChained answers yes; no other condition. -/
import Derived.Test.YtcmcbocegdejjaaClU
import Derived.IntWalk
namespace Go.Proofs.Ytcmcbocegdejjaa.Cl
open Go.RowKit Go.Lib Go.Shelf Go.Sort
set_option linter.unusedSimpArgs false
set_option linter.unusedVariables false

def Ext (s t : LS) : Prop := ∃ more, t.all = s.all ++ more ∧ (∀ x ∈ more, s.la < x.1) ∧ s.la ≤ t.la
theorem Ext.refl (s : LS) : Ext s s := ⟨[], by simp, (fun x hx => by cases hx), Int.le_refl _⟩
theorem Ext.trans {a b c : LS} (h : Ext a b) (k : Ext b c) : Ext a c := by
  obtain ⟨m1, e1, h1, l1⟩ := h
  obtain ⟨m2, e2, h2, l2⟩ := k
  refine ⟨m1 ++ m2, by rw [e2, e1, List.append_assoc], fun x hx => ?_, Int.le_trans l1 l2⟩
  rcases List.mem_append.1 hx with hx | hx
  · exact h1 x hx
  · exact Int.lt_of_le_of_lt l1 (h2 x hx)
theorem adO_ext (m : Int) (s : LS) (o : OpT) : Ext s (adO m s o) := by
  unfold adO LS.add
  split
  · exact Ext.refl s
  · rename_i h
    exact ⟨_, rfl, fun x hx => by rw [ofC_mem hx]; omega, by simp only; omega⟩
theorem runF_ext (m : Int) (s : LS) (ts : List OpT) : ∀ j, Ext s (runF m s ts j)
  | 0 => Ext.refl s
  | j + 1 => by
    by_cases h : j < ts.length
    · rw [runF_succ h]; exact (runF_ext m s ts j).trans (adO_ext _ _ _)
    · rw [runF_all (by omega)]; exact runF_ext m s ts j
theorem ext_eq {s t : LS} (h : Ext s t) (hs : Rgt s) {rev : Int} (hr : rev ≤ s.la) : abv t.all rev = abv s.all rev ++ abv t.all s.la := by
  obtain ⟨more, e, hm, _⟩ := h
  rw [e, abv_app, abv_app, abv_none (l := s.all) (r := s.la) hs.top, List.nil_append, abv_all hm, abv_all (fun x hx => Int.lt_of_le_of_lt hr (hm x hx))]
theorem snc_low {s : LS} {r : Int} (h : r ≤ s.la) : sncE s r = 0 ∨ sncE s r = 9 := by
  unfold sncE
  by_cases h1 : r < s.fl
  · simp [h1]
  · rw [if_neg h1, if_neg (by omega)]; exact .inl rfl
theorem snc_l0 {s : LS} {r : Int} (h : sncE s r = 0) : sncL s r = abv s.all r ∧ r ≤ s.la := by
  refine ⟨by unfold sncL; rw [if_pos h], ?_⟩
  unfold sncE at h
  by_cases h1 : r < s.fl
  · simp [h1] at h
  · by_cases h2 : s.la < r
    · simp [h1, h2] at h
    · omega
/-- entries that lie apart from both logs and their rows -/
def Kp (v : Value) (l : List Ent) (c d : Nat) (gb gd : Option Nat) (W : World) : Prop := RdE v l W ∧ (0 < l.length → ∀ g, v.ownBlock = some g → g < W.heap.size ∧ g ≠ c ∧ g ≠ d ∧ some g ≠ gb ∧ some g ≠ gd)
theorem Kp.go {v : Value} {l : List Ent} {c d : Nat} {gb gd : Option Nat} {W V : World} (h : Kp v l c d gb gd W) (hb : Below W.heap.size W V) : Kp v l c d gb gd V :=
  ⟨h.1.go hb, fun h0 g e => ⟨Nat.lt_of_lt_of_le (h.2 h0 g e).1 hb.size, (h.2 h0 g e).2⟩⟩
theorem rd_blk {v : Value} {l : List Ent} {W : World} (h : RdE v l W) (h0 : 0 < l.length) : ∀ g, v.ownBlock = some g → g < W.heap.size := by
  obtain ⟨ao, cap, rfl, hr⟩ := h
  obtain ⟨g', o, rfl, h1, _⟩ := hr h0
  intro g e
  injection e with e
  exact e ▸ h1
theorem Kp.of {v : Value} {l : List Ent} {c d : Nat} {gb gd : Option Nat} {m : Int} {s t : LS} {w W V : World} (hp : Pr c gb d gd m s t w W) (hr : RdE v l V) (hn : NwB v W.heap.size) : Kp v l c d gb gd V :=
  ⟨hr, fun h0 g e => by
    have h1 := hn g e
    have h2 := hp.lg.lt
    have h3 := hp.rf.lt
    exact ⟨rd_blk hr h0 g e, by omega, by omega, fun e2 => by have := (hp.lg.row g e2.symm).2; omega, fun e2 => by have := (hp.rf.row g e2.symm).2; omega⟩⟩
theorem Kp.step {v : Value} {l : List Ent} {c d : Nat} {gb gd gb' gd' : Option Nat} {W V : World} (h : Kp v l c d gb gd W) (hf : Fr c d gb gd gb' gd' W V) : Kp v l c d gb' gd' V := by
  refine ⟨?_, fun h0 g e => ?_⟩
  · obtain ⟨⟨ao, cap, rfl, hr⟩, h2⟩ := h
    refine ⟨ao, cap, rfl, fun h0 => ?_⟩
    obtain ⟨g, o, rfl, h1, hra⟩ := hr h0
    obtain ⟨k1, k2, k3, k4, k5⟩ := h2 h0 g rfl
    exact ⟨g, o, rfl, Nat.lt_of_lt_of_le h1 hf.size, fun j v hv => by rw [World.cell?_of_block (w := W) (a := ⟨g, o + j, none⟩) (hf.block g k1 k2 k3 k4 k5)]; exact hra j v hv⟩
  · obtain ⟨h1, h2, h3, h4, h5⟩ := h.2 h0 g e
    refine ⟨Nat.lt_of_lt_of_le h1 hf.size, h2, h3, ?_, ?_⟩
    · rcases hf.nb with e2 | e2 | ⟨q, e2, hq⟩
      · rw [e2]; exact h4
      · rw [e2]; simp
      · rw [e2]; intro e3; injection e3 with e3; omega
    · rcases hf.nd with e2 | e2 | ⟨q, e2, hq⟩
      · rw [e2]; exact h5
      · rw [e2]; simp
      · rw [e2]; intro e3; injection e3 with e3; omega
set_option maxRecDepth 100000 in
set_option maxHeartbeats 4000000 in
theorem chained_law (a : Option Addr) (len cap : Nat) (ts : List OpT) (a' : Option Addr) (len' cap' : Nat) (us : List OpT) (rev : Int) (key : ByteArray) (w : World) (h : IsOps w a len ts) (h2 : IsOps w a' len' us) :
    Calls Try.prog 5 #[.slice a len cap, .slice a' len' cap', .int .i64 rev, .string key] w fun e w' => e = .returned (.bool true) ∧ Below w.heap.size w w' := by
  have HI := Lib.hid h
  have hlen := h.2.1
  have htl := h.1
  unfold maxLen at hlen
  have HI2 := Lib.hid h2
  have hlen2 := h2.2.1
  have htl2 := h2.1
  unfold maxLen at hlen2
  clear h h2
  go_enter Try.func5, Try.ntmps5
  go_wp2_with fail
  refine (New_c 60 w).mono ?_
  rintro e w1 ⟨rfl, hn1, hb1⟩
  have HN1 := Lib.hid hn1
  have HB1 := Lib.hid hb1
  clear hn1 hb1
  go_wp2_with fail
  refine (New_r 60 w1).mono ?_
  rintro e w2 ⟨rfl, hn2, hb2⟩
  have K0 := Lib.hid (Pr.new HN1.out HB1.out hn2 hb2)
  clear hn2 hb2 HN1 HB1
  generalize w1.heap.size = d at K0 ⊢
  obtain ⟨c, hc⟩ : ∃ c, c = w.heap.size := ⟨_, rfl⟩
  rw [← hc] at K0 ⊢
  have HC := Lib.hid hc
  clear hc
  go_wp2
  go_loopw [29] (fun iv wr => ∃ (j : Nat) (gb gd : Option Nat), j ≤ len ∧ iv = .int .i64 j ∧ Hid (Pr c gb d gd 60 (runF 60 LS.zero ts (min j 12)) (runF 60 LS.zero ts (min j 12)) w wr)) (fun iv _ => len - (intOf iv).toNat)
  case atStart => exact ⟨0, none, none, by omega, rfl, K0⟩
  case round =>
    clear K0
    rename World => wr
    obtain ⟨j, gb, gd, hj, rfl, HK⟩ := hrel
    have HBD := Lib.hid (runF_bd 60 LS.zero ts (min j 12))
    by_cases hlt : j < len
    · obtain ⟨g, off, hao, hg, hat⟩ := (HI.out.go HK.out.bel).2.2.2 (by omega)
      subst hao
      obtain ⟨p0, p1⟩ := hat j (by omega)
      have hj0 : (0 : Int) ≤ (j : Int) := by omega
      have hjl : (j : Int) < (len : Int) := by omega
      have HRO := (HI.out.go HK.out.bel).2.2.1 (ts[j]'(by omega)) (List.getElem_mem _)
      have HSU : Hid (runF 60 LS.zero ts (j + 1) = adO 60 (runF 60 LS.zero ts j) (ts[j]'(by omega))) := runF_succ (by omega)
      obtain ⟨⟨k, v, cs⟩, ho⟩ : ∃ o : OpT, ts[j]'(by omega) = o := ⟨_, rfl⟩
      rw [ho] at p0 p1 HSU HRO
      simp only at p0 p1 HRO
      obtain ⟨av, cv, hv, _⟩ := HRO.1
      subst hv
      clear hat ho
      obtain ⟨W1, hW1, hk1, hb1⟩ := new2 wr (.int .i64 k) (.slice av cs.length cv) 29
      have HW1 := Lib.hid hW1
      have hgn : g ≠ wr.heap.size := by omega
      have K1 := Lib.hid (HK.out.go hb1)
      obtain ⟨q0, q1⟩ := cells2 hk1
      have HR1 := Lib.hid (HRO.1.go hb1)
      have HR2 := Lib.hid HRO.2
      clear hW1 hk1 hb1 HRO
      by_cases h20 : j < 12
      · have h20' : ¬ (12 : Int) ≤ (j : Int) := by omega
        have h20'' : (j : Int) < (12 : Int) := by omega
        have e1 : min j 12 = j := by omega
        have HAD := Lib.hid (add_c K1.out (k, .slice av cs.length cv, cs) HR1.out HR2.out (by have := HBD.out.1; have := zero_bd.1; omega) (by have := HBD.out.2; have := zero_bd.2; omega))
        unfold opV AdQ at HAD
        rw [e1, ← HSU.out, show j + 1 = min (j + 1) 12 by omega] at HAD
        clear e1
        revert HAD
        generalize hs' : runF 60 LS.zero ts (min (j + 1) 12) = s'
        have HS' := Lib.hid hs'
        clear hs'
        intro HAD
        go_wp2_with fail
        rw [← HW1.out]
        refine HAD.out.mono ?_
        rintro e w5 ⟨rfl, gb5, gd5, hP⟩
        have HP5 := Lib.hid hP
        clear hP
        go_wp2
        go_roundw
        case rel => exact ⟨j + 1, gb5, gd5, by omega, by go_num, by rw [HS'.out]; exact HP5⟩
        case measure => simp [intOf]; omega
      · have h20' : (12 : Int) ≤ (j : Int) := by omega
        have h20'' : ¬ (j : Int) < (12 : Int) := by omega
        have e1 : min (j + 1) 12 = min j 12 := by omega
        go_wp2
        rw [← HW1.out]
        go_roundw
        case rel => exact ⟨j + 1, gb, gd, by omega, by go_num, by rw [e1]; exact K1⟩
        case measure => simp [intOf]; omega
    · have hjl : ¬ (j : Int) < (len : Int) := by omega
      have HB1 : Hid ((runF 60 LS.zero ts (min j 12)).all.length ≤ 72 ∧ (runF 60 LS.zero ts (min j 12)).la ≤ 96) := ⟨by have := HBD.out.1; have := zero_bd.1; omega, by have := HBD.out.2; have := zero_bd.2; omega⟩
      have KZ := HK
      clear HBD HK
      revert HB1 KZ
      generalize runF 60 LS.zero ts (min j 12) = L
      intro HB1 KZ
      have hsl : L.all.length ≤ 1000000 := by have := HB1.out.1; omega
      have hxn := Nat.le_trans (fil_len key (sncL L rev)) (Nat.le_trans (snc_len L rev) hsl)
      go_wp2_with fail
      refine (fits_c key wr).mono ?_
      rintro e w3 ⟨rfl, hk3, hb3⟩
      have K3 := Lib.hid (KZ.out.go hb3)
      have HNK := Lib.hid (NextK_c K3.out.lg K3.out.rs rev key wr.heap.size hk3 hsl)
      unfold NkQ at HNK
      have HL := Lib.hid KZ.out.rs
      clear hk3 hb3 KZ
      generalize hX : fil key (sncL L rev) = X at HNK hxn
      generalize hU : nxA L rev = U at HNK
      generalize hE1 : sncE L rev = E1 at HNK
      have HX := Lib.hid hX
      have HU := Lib.hid hU
      have HE1 := Lib.hid hE1
      clear hX hU hE1
      go_wp2_with fail
      refine HNK.out.mono ?_
      rintro e w4 ⟨vx, rfl, hrx, hb4, hnw⟩
      have K4 := Lib.hid (K3.out.go hb4)
      have KX := Lib.hid (Kp.of K3.out hrx hnw)
      obtain ⟨ax, cx, rfl, _⟩ := hrx
      clear hb4 K3 HNK hnw
      go_wp2
      go_loopw [52] (fun iv wr2 => ∃ (j2 : Nat) (gb2 gd2 : Option Nat), j2 ≤ len' ∧ iv = .int .i64 j2 ∧ Hid (Pr c gb2 d gd2 60 (runF 60 L us (min j2 12)) (runF 60 L us (min j2 12)) w wr2) ∧ Hid (Kp (.slice ax X.length cx) X c d gb2 gd2 wr2)) (fun iv _ => len' - (intOf iv).toNat)
      case atStart => exact ⟨0, gb, gd, by omega, rfl, K4, KX⟩
      case round =>
        clear K4 KX
        rename World => wr2
        obtain ⟨j2, gb2, gd2, hj2, rfl, HK, HQ⟩ := hrel
        have HBD := Lib.hid (runF_bd 60 L us (min j2 12))
        by_cases hlt2 : j2 < len'
        · obtain ⟨g2, off2, hao2, hg2, hat2⟩ := (HI2.out.go HK.out.bel).2.2.2 (by omega)
          subst hao2
          obtain ⟨p02, p12⟩ := hat2 j2 (by omega)
          have hj02 : (0 : Int) ≤ (j2 : Int) := by omega
          have hjl2 : (j2 : Int) < (len' : Int) := by omega
          have HRO := (HI2.out.go HK.out.bel).2.2.1 (us[j2]'(by omega)) (List.getElem_mem _)
          have HSU : Hid (runF 60 L us (j2 + 1) = adO 60 (runF 60 L us j2) (us[j2]'(by omega))) := runF_succ (by omega)
          obtain ⟨⟨k, v, cs⟩, ho⟩ : ∃ o : OpT, us[j2]'(by omega) = o := ⟨_, rfl⟩
          rw [ho] at p02 p12 HSU HRO
          simp only at p02 p12 HRO
          obtain ⟨av, cv, hv, _⟩ := HRO.1
          subst hv
          clear hat2 ho
          obtain ⟨W1, hW1, hk1, hb1⟩ := new2 wr2 (.int .i64 k) (.slice av cs.length cv) 29
          have HW1 := Lib.hid hW1
          have hgn2 : g2 ≠ wr2.heap.size := by omega
          have K1 := Lib.hid (HK.out.go hb1)
          have HQ1 := Lib.hid (HQ.out.go hb1)
          obtain ⟨q02, q12⟩ := cells2 hk1
          have HR1 := Lib.hid (HRO.1.go hb1)
          have HR2 := Lib.hid HRO.2
          clear hW1 hk1 hb1 HRO
          by_cases h22 : j2 < 12
          · have h20' : ¬ (12 : Int) ≤ (j2 : Int) := by omega
            have h20'' : (j2 : Int) < (12 : Int) := by omega
            have e1 : min j2 12 = j2 := by omega
            have HAD := Lib.hid (add_f K1.out (k, .slice av cs.length cv, cs) HR1.out HR2.out (by have := HBD.out.1; have := HB1.out.1; omega) (by have := HBD.out.2; have := HB1.out.2; omega))
            unfold opV AdF at HAD
            rw [e1, ← HSU.out, show j2 + 1 = min (j2 + 1) 12 by omega] at HAD
            clear e1
            revert HAD
            generalize hs' : runF 60 L us (min (j2 + 1) 12) = s'
            have HS' := Lib.hid hs'
            clear hs'
            intro HAD
            go_wp2_with fail
            rw [← HW1.out]
            refine HAD.out.mono ?_
            rintro e w5 ⟨rfl, gb5, gd5, hP, hF⟩
            have HP5 := Lib.hid hP
            have HQ5 := Lib.hid (HQ1.out.step hF)
            clear hP hF
            go_wp2
            go_roundw
            case rel => exact ⟨j2 + 1, gb5, gd5, by omega, by go_num, by rw [HS'.out]; exact HP5, HQ5⟩
            case measure => simp [intOf]; omega
          · have h20' : (12 : Int) ≤ (j2 : Int) := by omega
            have h20'' : ¬ (j2 : Int) < (12 : Int) := by omega
            have e1 : min (j2 + 1) 12 = min j2 12 := by omega
            go_wp2
            rw [← HW1.out]
            go_roundw
            case rel => exact ⟨j2 + 1, gb2, gd2, by omega, by go_num, by rw [e1]; exact K1, HQ1⟩
            case measure => simp [intOf]; omega
        · have hjl2 : ¬ (j2 : Int) < (len' : Int) := by omega
          have HB2 : Hid ((runF 60 L us (min j2 12)).all.length ≤ 1000000) := by show _ ≤ _; have := HBD.out.1; have := HB1.out.1; omega
          have KZ := HK
          have HXT := Lib.hid (runF_ext 60 L us (min j2 12))
          have RX5 := Lib.hid HQ.out.1
          clear HBD HK HQ
          revert HB2 KZ HXT
          generalize runF 60 L us (min j2 12) = M
          intro HB2 KZ HXT
          have hyn := Nat.le_trans (fil_len key (sncL M U)) (Nat.le_trans (snc_len M U) HB2.out)
          have hzn := Nat.le_trans (fil_len key (sncL M rev)) (Nat.le_trans (snc_len M rev) HB2.out)
          go_wp2_with fail
          refine (fits_c key wr2).mono ?_
          rintro e w5 ⟨rfl, hk5, hb5⟩
          have K5 := Lib.hid (KZ.out.go hb5)
          have RX6 := Lib.hid (RX5.out.go hb5)
          have HNK := Lib.hid (NextK_c K5.out.lg K5.out.rs U key wr2.heap.size hk5 HB2.out)
          unfold NkQ at HNK
          clear hk5 hb5 KZ RX5
          generalize hY : fil key (sncL M U) = Y at HNK hyn
          generalize hU2 : nxA M U = U2 at HNK
          generalize hE2 : sncE M U = E2 at HNK
          have HY := Lib.hid hY
          have HU2 := Lib.hid hU2
          have HE2 := Lib.hid hE2
          clear hY hU2 hE2
          go_wp2_with fail
          refine HNK.out.mono ?_
          rintro e w6 ⟨vy, rfl, hry, hb6, _⟩
          have RX7 := Lib.hid (RX6.out.go hb6)
          have RY7 := Lib.hid hry
          obtain ⟨ay, cy, rfl, _⟩ := hry
          have K6 := Lib.hid (K5.out.go hb6)
          clear hb6 K5 HNK RX6
          go_wp2_with fail
          refine (fits_c key w6).mono ?_
          rintro e w7 ⟨rfl, hk7, hb7⟩
          have K7 := Lib.hid (K6.out.go hb7)
          have RX8 := Lib.hid (RX7.out.go hb7)
          have RY8 := Lib.hid (RY7.out.go hb7)
          have HNK := Lib.hid (NextK_c K7.out.lg K7.out.rs rev key w6.heap.size hk7 HB2.out)
          unfold NkQ at HNK
          clear hk7 hb7 K6 RX7 RY7
          generalize hZ : fil key (sncL M rev) = Z at HNK hzn
          generalize hU3 : nxA M rev = U3 at HNK
          generalize hE3 : sncE M rev = E3 at HNK
          have HZ := Lib.hid hZ
          have HU3 := Lib.hid hU3
          have HE3 := Lib.hid hE3
          clear hZ hU3 hE3
          go_wp2_with fail
          refine HNK.out.mono ?_
          rintro e w8 ⟨vz, rfl, hrz, hb8, _⟩
          have RX9 := Lib.hid (RX8.out.go hb8)
          have RY9 := Lib.hid (RY8.out.go hb8)
          have RZ9 := Lib.hid hrz
          obtain ⟨az, cz, rfl, _⟩ := hrz
          have K8 := Lib.hid (K7.out.go hb8)
          clear hb8 K7 HNK RX8 RY8
          have HA := Lib.hid (awake_c w8)
          have hC : (E1 = 9 ∨ E1 = 1) ∨ (E1 = 0 ∧ E2 = 9) ∨ (E1 = 0 ∧ E2 = 0 ∧ E3 = 9) ∨ (E1 = 0 ∧ E2 = 0 ∧ E3 = 0) := by
            rcases snc_cases L rev with h | ⟨h, _⟩ | ⟨h, _⟩
            · rw [HE1.out] at h
              obtain ⟨_, hle⟩ := snc_l0 (HE1.out.trans h)
              have hu : U = L.la := by rw [← HU.out]; unfold nxA; rw [HE1.out, if_pos h]
              obtain ⟨_, _, _, hml⟩ := HXT.out
              rcases snc_low (s := M) (r := U) (by omega) with h2 | h2
              · rcases snc_low (s := M) (r := rev) (by omega) with h3 | h3
                · exact .inr (.inr (.inr ⟨h, HE2.out.symm.trans h2, HE3.out.symm.trans h3⟩))
                · exact .inr (.inr (.inl ⟨h, HE2.out.symm.trans h2, HE3.out.symm.trans h3⟩))
              · exact .inr (.inl ⟨h, HE2.out.symm.trans h2⟩)
            · rw [HE1.out] at h
              exact .inl (.inl h)
            · rw [HE1.out] at h
              exact .inl (.inr h)
          rcases hC with (rfl | rfl) | ⟨rfl, rfl⟩ | ⟨rfl, rfl, rfl⟩ | ⟨rfl, rfl, rfl⟩
          · go_wp2_with fail
            refine HA.out.mono ?_
            rintro e w9 ⟨rfl, hb9⟩
            have B9 : Hid (Below w.heap.size w w9) := K8.out.bel.trans (hb9.mono K8.out.bel.size)
            clear hb9
            go_wp2
            go_ret
            exact ⟨rfl, B9.out⟩
          · go_wp2_with fail
            refine HA.out.mono ?_
            rintro e w9 ⟨rfl, hb9⟩
            have B9 : Hid (Below w.heap.size w w9) := K8.out.bel.trans (hb9.mono K8.out.bel.size)
            clear hb9
            go_wp2
            go_ret
            exact ⟨rfl, B9.out⟩
          · go_wp2_with fail
            refine HA.out.mono ?_
            rintro e w9 ⟨rfl, hb9⟩
            have B9 : Hid (Below w.heap.size w w9) := K8.out.bel.trans (hb9.mono K8.out.bel.size)
            clear hb9
            go_wp2
            go_ret
            exact ⟨rfl, B9.out⟩
          · go_wp2_with fail
            refine HA.out.mono ?_
            rintro e w9 ⟨rfl, hb9⟩
            have B9 : Hid (Below w.heap.size w w9) := K8.out.bel.trans (hb9.mono K8.out.bel.size)
            clear hb9
            go_wp2
            go_ret
            exact ⟨rfl, B9.out⟩
          · have hu : U = L.la := by rw [← HU.out]; unfold nxA; rw [if_pos HE1.out]
            obtain ⟨hl1, hle⟩ := snc_l0 HE1.out
            have HZE : Hid (Z = X ++ Y) := by
              show _ = _
              rw [← HZ.out, ← HX.out, ← HY.out, hl1, (snc_l0 HE2.out).1, (snc_l0 HE3.out).1, hu, ext_eq HXT.out HL.out hle, fil_app]
            have HUE : Hid (U2 = U3) := by
              show _ = _
              rw [← HU2.out, ← HU3.out]; unfold nxA; rw [if_pos HE2.out, if_pos HE3.out]
            clear hl1 hle hu HU HU2 HU3 HE1 HE2 HE3 HZ HX HY HXT HL HI HI2 HB1 HB2 HA
            have hue := HUE.out
            subst hue
            have hzl : Z.length = X.length + Y.length := by rw [HZE.out, List.length_append]
            have hzl2 : (X.length : Int) + (Y.length : Int) = (Z.length : Int) := by omega
            clear HUE
            have HZL := Lib.hid hzl
            clear hzl
            go_wp2
            clear hzl2
            go_loopw [120] (fun iv wq => ∃ i : Nat, i ≤ Z.length ∧ iv = .int .i64 i ∧ Hid (Below w8.heap.size w8 wq)) (fun iv _ => Z.length - (intOf iv).toNat)
            case atStart => exact ⟨0, by omega, rfl, Lib.hid (Below.refl _ _)⟩
            case round =>
              rename World => wq
              obtain ⟨i, hi6, rfl, HB⟩ := hrel
              by_cases hlz : i < Z.length
              · obtain ⟨gz, oz, haz, hgz, hatz⟩ := (RZ9.out.go HB.out).at (by omega)
                subst haz
                obtain ⟨p0, p1, p2, p3⟩ := cell4 hatz hlz
                have hi0 : (0 : Int) ≤ (i : Int) := by omega
                have hil : (i : Int) < (Z.length : Int) := by omega
                by_cases hx : i < X.length
                · obtain ⟨gx, ox, hax, hgx, hatx⟩ := (RX9.out.go HB.out).at (by omega)
                  subst hax
                  obtain ⟨q0, q1, q2, q3⟩ := cell4 hatx hx
                  have he : Z[i]'hlz = X[i]'hx := by
                    have h1 : Z[i]? = (X ++ Y)[i]? := by rw [HZE.out]
                    rw [List.getElem?_append_left hx, List.getElem?_eq_getElem hlz, List.getElem?_eq_getElem hx] at h1
                    exact Option.some.inj h1
                  obtain ⟨⟨x0, x1, x2, x3⟩, hxe⟩ : ∃ x : Ent, X[i]'hx = x := ⟨_, rfl⟩
                  rw [he, hxe] at p0 p1 p2 p3
                  rw [hxe] at q0 q1 q2 q3
                  simp only at p0 p1 p2 p3 q0 q1 q2 q3
                  have t0 : (i : Int) < (X.length : Int) := by omega
                  have t1 : decide ((i : Int) < (X.length : Int)) = true := decide_eq_true t0
                  have t2 : decide ((X.length : Int) ≤ (i : Int)) = false := decide_eq_false (by omega)
                  have t3 : decide (X.length ≤ i) = false := decide_eq_false (by omega)
                  have hE := neqE (x0, x1, x2, x3)
                  unfold aggE at hE
                  simp only at hE
                  have HB3 : Hid (∀ n, Below w8.heap.size w8 (wq.drewN n)) := fun n => HB.out.trans ((bdrN wq n).mono HB.out.size)
                  clear hatx hatz he hxe HB
                  go_wp2_with fail
                  go_quiet (fail)
                  go_wp2_with fail
                  go_roundw
                  case rel => exact ⟨i + 1, by omega, by go_num, Lib.hid (HB3.out _)⟩
                  case measure => simp [intOf]; omega
                · obtain ⟨k, hk⟩ : ∃ k, i = X.length + k := ⟨i - X.length, by omega⟩
                  have hyl : k < Y.length := by have := HZL.out; omega
                  obtain ⟨gy, oy, hay, hgy, haty⟩ := (RY9.out.go HB.out).at (by omega)
                  subst hay
                  obtain ⟨q0, q1, q2, q3⟩ := cell4 haty hyl
                  have he : Z[i]'hlz = Y[k]'hyl := by
                    have h1 : Z[i]? = (X ++ Y)[i]? := by rw [HZE.out]
                    rw [List.getElem?_append_right (by omega), List.getElem?_eq_getElem hlz, show i - X.length = k by omega, List.getElem?_eq_getElem hyl] at h1
                    exact Option.some.inj h1
                  obtain ⟨⟨x0, x1, x2, x3⟩, hxe⟩ : ∃ x : Ent, Y[k]'hyl = x := ⟨_, rfl⟩
                  rw [he, hxe] at p0 p1 p2 p3
                  rw [hxe] at q0 q1 q2 q3
                  simp only at p0 p1 p2 p3 q0 q1 q2 q3
                  have t0 : ¬ (i : Int) < (X.length : Int) := by omega
                  have t1 : decide ((i : Int) < (X.length : Int)) = false := decide_eq_false t0
                  have t1' : decide (i < X.length) = false := decide_eq_false hx
                  have t2 : decide ((X.length : Int) ≤ (i : Int)) = true := decide_eq_true (by omega)
                  have t2' : (X.length : Int) ≤ (i : Int) := by omega
                  have t3 : decide (X.length ≤ i) = true := decide_eq_true (by omega)
                  have s1 : (0 : Int) ≤ (i : Int) - (X.length : Int) := by omega
                  have s2 : (i : Int) - (X.length : Int) < (Y.length : Int) := by omega
                  have s3 : ((i : Int) - (X.length : Int)).toNat = k := by omega
                  have s4 : IntKind.i64.wrap ((i : Int) - (X.length : Int)) = (i : Int) - (X.length : Int) := by rw [hk]; simp only [Int.natCast_add]; rw [show (X.length : Int) + (k : Int) - (X.length : Int) = (k : Int) by omega]; exact IntWalk.i64_in _ (by omega)
                  have hE := neqE (x0, x1, x2, x3)
                  unfold aggE at hE
                  simp only at hE
                  have HB3 : Hid (∀ n, Below w8.heap.size w8 (wq.drewN n)) := fun n => HB.out.trans ((bdrN wq n).mono HB.out.size)
                  have HK := Lib.hid hk
                  clear haty hatz he hxe HB hk hx
                  go_wp2_with fail
                  go_quiet (fail)
                  clear s1 s2 s3 s4
                  go_wp2_with fail
                  go_roundw
                  case rel => exact ⟨i + 1, by omega, by go_num, Lib.hid (HB3.out _)⟩
                  case measure => simp [intOf]; omega
              · have hil : ¬ (i : Int) < (Z.length : Int) := by omega
                have K9 := Lib.hid (K8.out.go HB.out)
                clear HB
                go_wp2_with fail
                refine (awake_c wq).mono ?_
                rintro e w10 ⟨rfl, hb10⟩
                have B9 : Hid (Below w.heap.size w w10) := K9.out.bel.trans (hb10.mono K9.out.bel.size)
                clear hb10 K9
                go_wp2
                go_ret
                exact ⟨rfl, B9.out⟩
end Go.Proofs.Ytcmcbocegdejjaa.Cl
