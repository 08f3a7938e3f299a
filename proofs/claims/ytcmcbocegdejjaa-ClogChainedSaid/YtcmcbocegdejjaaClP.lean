/- The law's add: an addition to both logs; no other condition. -/
import Derived.Test.YtcmcbocegdejjaaClO
import Derived.Deep.Cut
namespace Go.Proofs.Ytcmcbocegdejjaa.Cl
open Go.RowKit Go.Lib Go.Shelf Go.Sort
set_option linter.unusedSimpArgs false
set_option linter.unusedVariables false

/-- the revision of an addition -/
def rvO (la : Int) (o : OpT) : Int := la + Int.tmod o.1 9
def adO (m : Int) (s : LS) (o : OpT) : LS := s.add (max m 1) (rvO s.la o) (o.2.2.take 6)
theorem tm9 (x : Int) : -8 ≤ Int.tmod x 9 ∧ Int.tmod x 9 ≤ 8 := by
  have h1 := Int.tmod_lt_of_pos x (show (0 : Int) < 9 by decide)
  have h2 := Int.lt_tmod_of_pos x (show (0 : Int) < 9 by decide)
  omega
theorem adO_la (m : Int) (s : LS) (o : OpT) : (adO m s o).la ≤ s.la + 8 := by
  unfold adO LS.add rvO
  have := tm9 o.1
  split
  · omega
  · simp only; omega
theorem adO_len (m : Int) (s : LS) (o : OpT) : (adO m s o).all.length ≤ s.all.length + 6 := by
  unfold adO
  have := LS.add_len s (max m 1) (rvO s.la o) (o.2.2.take 6)
  rw [List.length_take] at this
  omega
theorem adO_rgt {m : Int} {s : LS} (h : Rgt s) (o : OpT) : Rgt (adO m s o) := h.add _ _ _
theorem take6 {l : List Chg} {j : Nat} (hj : j < l.length) (h6 : j < 6) : l.take (min (j + 1) 6) = l.take (min j 6) ++ [l[j]] := by
  rw [show min (j + 1) 6 = j + 1 by omega, show min j 6 = j by omega]
  exact List.take_succ_eq_append_getElem hj
def opV (o : OpT) : Value := .agg #[.int .i64 o.1, o.2.1]
def AdQ (c d : Nat) (m : Int) (s : LS) (o : OpT) (w : World) (e : Ending) (V : World) : Prop := e = .returned (.bool true) ∧ ∃ gb gd, Pr c gb d gd m (adO m s o) (adO m s o) w V
theorem apt_own {T : TypeId} {B c : Nat} {gb : Option Nat} {v : Value} {cs : List Chg} {W : World} (h : W.ownsRow B T 3 v cs.length (cC cs)) (hc : c < B) (hb : ∀ g, gb = some g → g < B) : Apt c gb v cs W := by
  rcases h.2 with ⟨rfl, h0⟩ | ⟨g, cap, cur, rfl, _⟩
  · exact ⟨none, 0, by rw [h0], fun h => by omega⟩
  · obtain ⟨h1, h2, _, _, h5, _⟩ := own_range h
    exact ⟨_, _, rfl, fun _ => ⟨g, 0, rfl, h1, by omega, fun e => by have := hb g e.symm; omega, h5⟩⟩
theorem Apt.move {c : Nat} {gb gb' : Option Nat} {v : Value} {cs : List Chg} {w W : World} (h : Apt c gb v cs w) (hs : w.heap.size ≤ W.heap.size) (hk : ∀ g, v.ownBlock = some g → g < w.heap.size → W.heap[g]? = w.heap[g]? ∧ g ≠ c ∧ some g ≠ gb') : Apt c gb' v cs W := by
  obtain ⟨ao, cap, rfl, h⟩ := h
  refine ⟨ao, cap, rfl, fun h0 => ?_⟩
  obtain ⟨g, o, rfl, h1, h2, h3, h4⟩ := h h0
  obtain ⟨k1, k2, k3⟩ := hk g rfl h1
  refine ⟨g, o, rfl, Nat.lt_of_lt_of_le h1 hs, k2, k3, fun j v hv => ?_⟩
  rw [World.cell?_of_block (w := w) (a := ⟨g, o + j, none⟩) k1]
  exact h4 j v hv
theorem own_apart {T T2 : TypeId} {B B2 k k2 n n2 g : Nat} {v v2 : Value} {xs xs2 : List Value} {w : World} (h : w.ownsRow B T k v n xs) (h2 : w.ownsRow B2 T2 k2 v2 n2 xs2) (hT : T ≠ T2) (e : v.ownBlock = some g) : v2.ownBlock ≠ some g := by
  intro e2
  rcases h.2 with ⟨rfl, _⟩ | ⟨g1, c1, cur1, rfl, _, p1, _⟩
  · cases e
  · rcases h2.2 with ⟨rfl, _⟩ | ⟨g2, c2, cur2, rfl, _, p2, _⟩
    · cases e2
    · have a1 : g1 = g := by injection e
      have a2 : g2 = g := by injection e2
      rw [a1] at p1
      rw [a2, p1] at p2
      injection p2 with p2
      injection p2 with _ p2
      exact hT p2
theorem own_grown {T T2 : TypeId} {B B2 k k2 n n2 : Nat} {v v2 : Value} {xs xs2 : List Value} {w V : World} (h : w.ownsRow B T k v n xs) (h2 : w.ownsRow B2 T2 k2 v2 n2 xs2) (hT : T ≠ T2) (hg : w.grownBy V v.ownBlock) : V.ownsRow B2 T2 k2 v2 n2 xs2 :=
  own_kept h2 (fun g e => hg.block g (World.ownsRow.lt h2 g e).2 (fun e2 => own_apart h h2 hT e2.symm e))
/-- what an addition to both changes: both logs and their rows; new rows are the old ones, none, or new -/
structure Fr (c d : Nat) (gb gd gb' gd' : Option Nat) (W V : World) : Prop where
  size : W.heap.size ≤ V.heap.size
  block : ∀ k, k < W.heap.size → k ≠ c → k ≠ d → some k ≠ gb → some k ≠ gd → V.heap[k]? = W.heap[k]?
  nb : NewB gb gb' W
  nd : NewB gd gd' W
def AdF (c d : Nat) (gb gd : Option Nat) (m : Int) (s : LS) (o : OpT) (w W : World) (e : Ending) (V : World) : Prop := e = .returned (.bool true) ∧ ∃ gb' gd', Pr c gb' d gd' m (adO m s o) (adO m s o) w V ∧ Fr c d gb gd gb' gd' W V
set_option maxRecDepth 100000 in
set_option maxHeartbeats 8000000 in
theorem add_f {c d : Nat} {gb gd : Option Nat} {m : Int} {s : LS} {w W : World} (h : Pr c gb d gd m s s w W) (o : OpT) (hr : RdC o.2.1 o.2.2 W) (hml : o.2.2.length ≤ maxLen) (hl : s.all.length ≤ 1000) (hla : s.la ≤ 1000) :
    Calls Try.prog 9 #[.pointer (some ⟨c, 0, none⟩), .pointer (some ⟨d, 0, none⟩), opV o] W (AdF c d gb gd m s o w W) := by
  obtain ⟨i0, hi, hz0, hz1, hz2⟩ := info_parts infoC
  obtain ⟨i1, hi', hy0, hy1, hy2⟩ := info_parts infoRC
  obtain ⟨k, v, cs⟩ := o
  simp only at hr hml
  unfold maxLen at hml
  have HR0 := Lib.hid hr
  obtain ⟨av, cv, rfl, _⟩ := hr
  have H := Lib.hid h
  clear h
  obtain ⟨W0, hW0, hk0, hb0⟩ := new2 W (.int .i64 k) (.slice av cs.length cv) 29
  have HW0 := Lib.hid hW0
  have HK0 := Lib.hid hk0
  have HB0 := Lib.hid hb0
  obtain ⟨d0, d1⟩ := cells2 hk0
  have hlw : W.heap.size < W0.heap.size := (Array.getElem?_eq_some_iff.1 hk0).1
  clear hW0 hk0 hb0
  unfold opV
  simp only
  go_enter Try.func9, Try.ntmps9
  go_wp2_with fail
  rw [← HW0.out]
  go_wp2
  go_loopw [7, 8, 15] (fun cv wv iv wr => ∃ j : Nat, j ≤ cs.length ∧ iv = .int .i64 j ∧ Hid (wr.ownsRow W0.heap.size 55 3 cv (cs.take (min j 6)).length (cC (cs.take (min j 6)))) ∧ Hid (wr.ownsRow W0.heap.size 51 3 wv (cs.take (min j 6)).length (cC (cs.take (min j 6)))) ∧ Hid (Below W0.heap.size W0 wr)) (fun _ _ iv _ => cs.length - (intOf iv).toNat)
  case atStart => exact ⟨0, by omega, rfl, World.ownsRow_nil _ _ _ _, World.ownsRow_nil _ _ _ _, Below.refl _ _⟩
  case round =>
    obtain ⟨j, hj, rfl, HOC, HOW, HB⟩ := hrel
    obtain ⟨ac, cpc, hcv⟩ := own_form HOC.out
    subst hcv
    obtain ⟨aw, cpw, hwv⟩ := own_form HOW.out
    subst hwv
    have HBW : Hid (Below W.heap.size W wr) := HB0.out.trans (HB.out.mono HB0.out.size)
    by_cases hlt : j < cs.length
    · obtain ⟨g, off, hao, hg, hat⟩ := (HR0.out.go HBW.out).at (by omega)
      subst hao
      obtain ⟨p0, p1, p2⟩ := cellC hat hlt
      have hj0 : (0 : Int) ≤ (j : Int) := by omega
      have hjl : (j : Int) < (cs.length : Int) := by omega
      have HT6 := Lib.hid (take6 hlt)
      obtain ⟨⟨x1, x2, x3⟩, hx⟩ : ∃ x : Chg, cs[j] = x := ⟨_, rfl⟩
      rw [hx] at p0 p1 p2 HT6
      simp only at p0 p1 p2
      obtain ⟨W1, hW1, hk1, hb1⟩ := new3 wr (.string x1) (.string x2) (.bool x3) 51
      have HW1 := Lib.hid hW1
      have HK1 := Lib.hid hk1
      obtain ⟨e0, e1, e2⟩ := cells3 hk1
      have HB1 : Hid (Below W0.heap.size W0 W1) := HB.out.trans (hb1.mono HB.out.size)
      have HOC1 := Lib.hid (own_go HOC.out hb1)
      have HOW1 := Lib.hid (own_go HOW.out hb1)
      have hgn : g ≠ wr.heap.size := by omega
      have hlw1 : wr.heap.size < W1.heap.size := (Array.getElem?_eq_some_iff.1 hk1).1
      have HLW : Hid (W0.heap.size ≤ wr.heap.size) := HB.out.size
      clear hat hx hW1 hk1 hb1 HOC HOW HB HBW
      by_cases h6 : j < 6
      · have h6i : (j : Int) < 6 := by omega
        have HT7 := Lib.hid (HT6.out h6)
        have ht6 : (cs.take (min j 6)).length ≤ 6 := by rw [List.length_take]; omega
        clear HT6
        generalize hT : cs.take (min j 6) = T at HOC1 HOW1 HT7 ht6
        have D3 : Hid (T.length + 1 ≤ maxLen) := by show _ ≤ _; unfold maxLen; omega
        have D4 : Hid ((T.length + 1) * 40 ≤ 140737488355328) := by show _ ≤ _; omega
        have DE := Lib.hid (encC_ok (x1, x2, x3))
        obtain ⟨WA, hWA, hkA, hbA⟩ := new3 W1 (.string x1) (.string x2) (.bool x3) 55
        have HWA := Lib.hid hWA
        have HWAC : Hid (∀ i u, (encC (x1, x2, x3))[i]? = some u → WA.cell? ((⟨W1.heap.size, 0, none⟩ : Addr).add i) = some u) := World.news_of_block (cs := #[.string x1, .string x2, .bool x3]) hkA
        have HOCA := Lib.hid (own_go HOC1.out hbA)
        have HOWA := Lib.hid (own_go HOW1.out hbA)
        have HBA : Hid (Below W0.heap.size W0 WA) := HB1.out.trans (hbA.mono HB1.out.size)
        have HWAS : Hid (W0.heap.size ≤ WA.heap.size) := HBA.out.size
        have HK1A : Hid (WA.heap[wr.heap.size]? = some (.cells #[.string x1, .string x2, .bool x3] 51 (0, 0))) := (hbA.block _ hlw1).trans HK1.out
        clear hWA hkA hbA
        go_upto_region 7 with (fail)
        rw [← HW1.out]
        go_wp2_with (at_builtin; rw [← HWA.out]; refine wpList_append_own _ rfl _ _ 63 rfl W0.heap.size 55 i0 _ 3 40 Try.underlying63 hi hz0 hz1 hz2 rfl (by decide) _ _ _ rfl HOCA.out ⟨W1.heap.size, 0, none⟩ 1 1 (encC (x1, x2, x3)) rfl rfl HWAC.out DE.out D3.out D4.out HWAS.out ?_)
        intro v1 V1 hown1 hgrow1 _
        have HOC2 : Hid (V1.ownsRow W0.heap.size 55 3 v1 (cs.take (min (j + 1) 6)).length (cC (cs.take (min (j + 1) 6)))) := by
          show World.ownsRow _ _ _ _ _ _ _
          rw [HT7.out, cC_snoc, List.length_append]
          exact hown1
        have HOW2 : Hid (V1.ownsRow W0.heap.size 51 3 (.slice aw T.length cpw) T.length (cC T)) := own_grown HOCA.out HOWA.out (by decide) hgrow1
        have HB2 : Hid (Below W0.heap.size W0 V1) := HBA.out.grown hgrow1 HBA.out.size (fun q hq => (HOCA.out.lt q hq).1)
        have hbx : V1.heap[wr.heap.size]? = some (.cells #[.string x1, .string x2, .bool x3] 51 (0, 0)) := (hgrow1.block _ (Array.getElem?_eq_some_iff.1 HK1A.out).1 (fun e => by
          rcases HOCA.out.2 with ⟨ee, _⟩ | ⟨gg, _, _, ee, _, pp, _⟩
          · rw [ee] at e; cases e
          · rw [ee] at e
            have e' : wr.heap.size = gg := by injection e
            rw [← e', HK1A.out] at pp
            injection pp with pp
            injection pp with _ pp
            exact absurd pp (by decide))).trans HK1A.out
        obtain ⟨ac2, cpc2, hv1⟩ := own_form hown1
        subst hv1
        clear e0 e1 e2 p0 p1 p2
        obtain ⟨e0, e1, e2⟩ := cells3 hbx
        obtain ⟨WB, hWB, hkB, hbB⟩ := new3 V1 (.string x1) (.string x2) (.bool x3) 51
        have HWB := Lib.hid hWB
        have HWBC : Hid (∀ i u, (encC (x1, x2, x3))[i]? = some u → WB.cell? ((⟨V1.heap.size, 0, none⟩ : Addr).add i) = some u) := World.news_of_block (cs := #[.string x1, .string x2, .bool x3]) hkB
        have HOCB := Lib.hid (own_go HOC2.out hbB)
        have HOWB := Lib.hid (own_go HOW2.out hbB)
        have HBB : Hid (Below W0.heap.size W0 WB) := HB2.out.trans (hbB.mono HB2.out.size)
        have HWBS : Hid (W0.heap.size ≤ WB.heap.size) := HBB.out.size
        clear hown1 hgrow1 hbx hWB hkB hbB
        go_wp2_with (at_builtin; rw [← HWB.out]; refine wpList_append_own _ rfl _ _ 27 rfl W0.heap.size 51 i1 _ 3 40 Try.underlying27 hi' hy0 hy1 hy2 rfl (by decide) _ _ _ rfl HOWB.out ⟨V1.heap.size, 0, none⟩ 1 1 (encC (x1, x2, x3)) rfl rfl HWBC.out DE.out D3.out D4.out HWBS.out ?_)
        intro v2 V2 hown2 hgrow2 _
        have HOW3 : Hid (V2.ownsRow W0.heap.size 51 3 v2 (cs.take (min (j + 1) 6)).length (cC (cs.take (min (j + 1) 6)))) := by
          show World.ownsRow _ _ _ _ _ _ _
          rw [HT7.out, cC_snoc, List.length_append]
          exact hown2
        have hT2 : (T.length + 1) = (cs.take (min (j + 1) 6)).length := by rw [HT7.out]; simp
        have HOC3 : Hid (V2.ownsRow W0.heap.size 55 3 (.slice ac2 (T.length + 1) cpc2) (cs.take (min (j + 1) 6)).length (cC (cs.take (min (j + 1) 6)))) := own_grown HOWB.out HOCB.out (by decide) hgrow2
        have HB3 : Hid (Below W0.heap.size W0 V2) := HBB.out.grown hgrow2 HBB.out.size (fun q hq => (HOWB.out.lt q hq).1)
        obtain ⟨aw2, cpw2, hv2⟩ := own_form hown2
        subst hv2
        clear hown2 hgrow2
        go_wp2
        go_roundw
        case rel => exact ⟨j + 1, by omega, by go_num, HOC3, HOW3, HB3⟩
        case measure => simp [intOf]; omega
      · have h6i : ¬ (j : Int) < 6 := by omega
        have e6 : min (j + 1) 6 = min j 6 := by omega
        go_wp2
        rw [← HW1.out]
        go_roundw
        case rel => exact ⟨j + 1, by omega, by go_num, by rw [e6]; exact HOC1, by rw [e6]; exact HOW1, HB1⟩
        case measure => simp [intOf]; omega
    · have hjl : ¬ (j : Int) < (cs.length : Int) := by omega
      have e6 : cs.take (min j 6) = cs.take 6 := by
        by_cases h : j < 6
        · rw [show min j 6 = j by omega, List.take_of_length_le (i := j) (by omega), List.take_of_length_le (i := 6) (by omega)]
        · rw [show min j 6 = 6 by omega]
      rw [e6] at HOC HOW
      have HP := Lib.hid (H.out.go HBW.out)
      obtain ⟨vr, hvr, _, _⟩ := HP.out.rf.ex
      obtain ⟨r0, r1, r2, r3⟩ := cells4 hvr
      obtain ⟨b0, b1⟩ := cells2 ((HB.out.block _ hlw).trans HK0.out)
      have htm := tm9 k
      have hla0 := H.out.rs.la0
      clear hvr r0 r1 r2 b1
      go_wp2_with fail
      go_quiet (fail)
      go_wp2_with fail
      have hq0 : Below wr.heap.size wr (wr.drewN nq) := bdrN wr nq
      have HPL := HP.out.go hq0
      have hl6 : (cs.take 6).length ≤ 6 := by rw [List.length_take]; omega
      have hbase : ∀ g, gb = some g → g < W0.heap.size := fun g hg => by have := (H.out.lg.row g hg).2; omega
      have hbase2 : ∀ g, gd = some g → g < W0.heap.size := fun g hg => by have := (H.out.rf.row g hg).2; omega
      have hcl := H.out.lg.lt
      have hdl := H.out.rf.lt
      have hAC := apt_own (c := c) (gb := gb) (own_go HOC.out hq0) (by omega) hbase
      have hAW := apt_own (c := d) (gb := gd) (own_go HOW.out hq0) (by omega) hbase2
      have hrg : rvO s.la (k, Value.slice av cs.length cv, cs) = s.la + k.tmod 9 := rfl
      have HA1 := Lib.hid (Add_c HPL.lg HPL.bel.size HPL.rs (s.la + k.tmod 9) ac cpc (cs.take 6) hAC (by omega) (by omega))
      rw [List.length_take] at HA1
      refine HA1.out.mono ?_
      rintro e w5 ⟨rfl, hq⟩
      obtain ⟨gb5, hP5, hch5, hnb5⟩ := HPL.stepL hq (HPL.rs.add (max m 1) (s.la + k.tmod 9) (cs.take 6))
      have hAW5 : Apt d gd (.slice aw (cs.take 6).length cpw) (cs.take 6) w5 := hAW.move hch5.size (fun g e hg => by
        have hgr := (World.ownsRow.lt HOW.out g e).1
        exact ⟨hch5.block g hg (by omega) (fun e2 => by have := hbase g e2.symm; omega), by omega, fun e2 => by have := hbase2 g e2.symm; omega⟩)
      have HA2 := Lib.hid (AddR_c hP5.rf hP5.bel.size (s.la + k.tmod 9) aw cpw (cs.take 6) hAW5 (by omega) (by omega) (by omega))
      rw [List.length_take] at HA2
      have HP5 := Lib.hid hP5
      have HCH5 := Lib.hid hch5
      have HNB5 := Lib.hid hnb5
      clear hq hch5 hnb5 hP5 hAW5 HPL hAC hAW hq0 HA1
      go_wp2_with fail
      refine HA2.out.mono ?_
      rintro e w6 ⟨rfl, hq⟩
      obtain ⟨gd6, hP6, hch6, hnd6⟩ := HP5.out.stepR hq (HP5.out.rt.add (max m 1) (s.la + k.tmod 9) (cs.take 6))
      have hws : W.heap.size ≤ (wr.drewN nq).heap.size := HBW.out.size
      have HFR : Hid (Fr c d gb gd gb5 gd6 W w6) := ⟨Nat.le_trans hws (Nat.le_trans HCH5.out.size hch6.size), fun q hq1 hq2 hq3 hq4 hq5 => ((hch6.block q (Nat.lt_of_lt_of_le (Nat.lt_of_lt_of_le hq1 hws) HCH5.out.size) hq3 hq5).trans (HCH5.out.block q (Nat.lt_of_lt_of_le hq1 hws) hq2 hq4)).trans (HBW.out.block q hq1), HNB5.out.lift hws, hnd6.lift (Nat.le_trans hws HCH5.out.size)⟩
      have HP6 : Hid (∃ gb' gd', Pr c gb' d gd' m (adO m s (k, Value.slice av cs.length cv, cs)) (adO m s (k, Value.slice av cs.length cv, cs)) w w6 ∧ Fr c d gb gd gb' gd' W w6) := ⟨gb5, gd6, hP6, HFR.out⟩
      clear hq hP6 hch6 hnd6 hws HFR
      go_wp2
      go_ret
      exact ⟨rfl, HP6.out⟩
theorem add_c {c d : Nat} {gb gd : Option Nat} {m : Int} {s : LS} {w W : World} (h : Pr c gb d gd m s s w W) (o : OpT) (hr : RdC o.2.1 o.2.2 W) (hml : o.2.2.length ≤ maxLen) (hl : s.all.length ≤ 1000) (hla : s.la ≤ 1000) :
    Calls Try.prog 9 #[.pointer (some ⟨c, 0, none⟩), .pointer (some ⟨d, 0, none⟩), opV o] W (AdQ c d m s o w) :=
  (add_f h o hr hml hl hla).mono fun e V ⟨he, gb', gd', hp, _⟩ => ⟨he, gb', gd', hp⟩
end Go.Proofs.Ytcmcbocegdejjaa.Cl
