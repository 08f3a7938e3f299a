/- The document's store: Commit, the walk; no other condition. -/
import Derived.Test.YtjceofkcahfhmaaMvDj
namespace Go.Proofs.Ytjceofkcahfhmaa.Mv
open Go.RowKit Go.Lib Go.Maps Go.Shelf Go.Sort
open Go.Proofs.Ytjceofkcahfhmaa.Cn
set_option linter.unusedSimpArgs false
set_option linter.unusedVariables false

theorem revA_sn (A : List (List ItT)) (x : List ItT) : revA (A ++ [x]) = revA A + 1 := by unfold revA; simp
set_option maxRecDepth 100000 in
set_option maxHeartbeats 8000000 in
theorem CommitD_ok {F G : Nat → Prop} {r : Nat} {A : List (List ItT)} {kl vl fl : Int} {Ns : List Key} {Cs : List (List Ver)} {w : World} (h : IsR F G r A kl vl fl Ns Cs w) (hA : A.length ≤ 10000) (hAl : (lastA A).length ≤ 50000) (hNC : Ns.length = Cs.length) (ac : Option Addr) (cc : Nat) (l : List ChT) (hl : RdC (.slice ac l.length cc) l w) (hac : ∀ g, ac = some ⟨g, 0, none⟩ → ¬ G g) (hcc : l.length ≤ cc) (hC : Cs.length + l.length ≤ 1000) (hL : ∀ c ∈ Cs, c.length + l.length ≤ 1000) (hm : mayD A kl vl Cs l = 0) (hFb : ∀ k, F k → k < w.heap.size) :
    Calls Try.prog 22 #[.pointer (some ⟨r, 0, none⟩), .slice ac l.length cc] w fun e w' => e = .returned (.tuple #[.int .i64 (revA A + 1), .int .i64 0]) ∧ CmD F G r A kl vl fl Ns Cs l w w' l.length := by
  have HMY := Lib.hid (MayR_c h (by omega) hAl (by omega) (fun c hc => by have := hL c hc; omega) ac cc l hl hcc (by omega))
  rw [hm] at HMY
  have HI := Lib.hid h
  have HFB := Lib.hid hFb
  have HNX : Hid (∀ V, Below w.heap.size w V → Calls Try.prog 33 #[.pointer (some ⟨r, 0, none⟩), .slice ac l.length cc] V fun e w' => ∃ v, e = .returned v ∧ RdI (Fx F V.heap.size) v (nextL A l) w' ∧ Below V.heap.size V w') := fun V hV => next_c (h.go hV) (by omega) hAl ac cc l (hl.go hV) (by omega)
  obtain ⟨i0, hi, hz0, hz1, hz2⟩ := info_parts infoLI
  obtain ⟨vA, vN, vC, cs, h1, h2, h3, h4, h5, h6, h7, h8⟩ := h.ex
  have hrl : r < w.heap.size := (Array.getElem?_eq_some_iff.1 h1).1
  obtain ⟨g, cap, rfl, hc, h00, hFg, hg, _⟩ := id h2
  have H1 := Lib.hid h1
  have H2 := Lib.hid h2
  have H3 := Lib.hid h3
  have H4 := Lib.hid h4
  have H5 := Lib.hid h5
  have H6 := Lib.hid h6
  have H7 := Lib.hid h7
  have H8 := Lib.hid h8
  have HNC := Lib.hid hNC
  have HLM := Lib.hid hL
  have HAC := Lib.hid hac
  have HLL := Lib.hid hl
  have HCM := Lib.hid hC
  obtain ⟨n, hn⟩ : ∃ n, n = A.length := ⟨_, rfl⟩
  have HN : Hid (A.length = n) := hn.symm
  rw [← hn] at H1 H2 hc h00 hA
  obtain ⟨t, ht⟩ : ∃ t, t = l.length := ⟨_, rfl⟩
  have HT : Hid (l.length = t) := ht.symm
  rw [← ht] at HMY HNX HLL hcc ⊢
  have htt : t ≤ 1000 := by omega
  clear h h1 h2 h3 h4 h5 h6 h7 h8 hNC hL hac hl hn ht hm hC hAl hFb
  go_enter Try.func22, Try.ntmps22
  go_upto_region 4 with (go_at_call 19; (with_reducible refine HMY.out.mono ?_); rintro e w1 ⟨rfl, hb1⟩; have HB1 := Lib.hid hb1; clear hb1)
  have HS1 : Hid (w1.heap[r]? = some (.cells #[.slice (some ⟨g, 0, none⟩) n cap, .int .i64 kl, .int .i64 vl, .int .i64 fl, vN, vC] 38 (0, 0))) := (HB1.out.block r hrl).trans H1.out
  obtain ⟨vs, hvl, hvc, hv1, hvr⟩ := H2.out.vals
  obtain ⟨WE, hWE⟩ : ∃ WE, WE = w1.alloc (.cells #[] 40) := ⟨_, rfl⟩
  have hbE : Below w1.heap.size w1 WE := by rw [hWE]; exact (Below.refl _ _).alloc (Nat.le_refl _) _
  have HBE := Lib.hid hbE
  have HOE : Hid (WE.ownsRow w1.heap.size 40 1 (.slice (some ⟨w1.heap.size, 0, none⟩) 0 0) 0 []) := by rw [hWE]; exact World.ownsRow_made w1 #[] 0 (Nat.le_refl _) (by unfold maxLen; omega) rfl
  have HWE := Lib.hid hWE
  have HVL : Hid (vs.length = n * 1) := by show _ = _; rw [hvl, HN.out]; omega
  have HVC : Hid (∀ j u, vs[j]? = some u → WE.cell? ((⟨g, 0, none⟩ : Addr).add j) = some u) := fun j u hu => by
    have h1 := hvc j u hu
    have : ((⟨g, 0, none⟩ : Addr).add j) = ⟨g, j, none⟩ := by rw [Addr.add_lit, Nat.zero_add]
    rw [this]
    exact ((HB1.out.trans (hbE.mono HB1.out.size)).cell (p := ⟨g, j, none⟩) hg).trans h1
  have HV1 := Lib.hid hv1
  have HVR := Lib.hid hvr
  have D1 : Hid (0 + n ≤ maxLen) := by show _ ≤ _; unfold maxLen; omega
  have D2 : Hid ((0 + n) * 24 ≤ 140737488355328) := by show _ ≤ _; omega
  have D0 : Hid (w1.heap.size ≤ WE.heap.size) := hbE.size
  obtain ⟨c0, c1, c2, c3, c4, c5⟩ := cells6 ((hbE.block r (Nat.lt_of_lt_of_le hrl HB1.out.size)).trans HS1.out)
  obtain ⟨e0, e1, e2, e3, e4, e5⟩ := cells6 HS1.out
  have hn1 : r ≠ w1.heap.size := by have := HB1.out.size; omega
  have c0x := c0
  rw [hWE] at c0x
  clear hvl hvc hv1 hvr hWE hbE
  have hnp : 0 < n := h00
  have HBW : Hid (Below w.heap.size w WE) := HB1.out.trans (HBE.out.mono HB1.out.size)
  go_wp2_with (at_builtin; rw [← HWE.out]; refine wpList_append_lies _ rfl _ _ 34 rfl w1.heap.size 40 i0 _ 1 24 Try.underlying34 hi hz0 hz1 hz2 rfl (by decide) _ _ _ rfl HOE.out ⟨g, 0, none⟩ n cap vs rfl HVL.out HVC.out HV1.out hnp D1.out D2.out D0.out _ rfl ?_)
  intro gL cL wL hown hgrow hat _
  have HBL := Lib.hid (HBW.out.grown hgrow HBW.out.size (fun k hk => Nat.le_trans HB1.out.size (HOE.out.lt k hk).1))
  have HNL := Lib.hid (HNX.out wL HBL.out)
  have HOL := Lib.hid hown
  have HGL := Lib.hid hgrow
  have HAT := Lib.hid hat
  clear hown hgrow hat c0 c1 c2 c3 c4 c5 e0 e1 e2 e3 e4 e5 c0x
  have D3 : Hid (n + 1 ≤ maxLen) := by show _ ≤ _; unfold maxLen; omega
  have D4 : Hid ((n + 1) * 24 ≤ 140737488355328) := by show _ ≤ _; omega
  go_wp2_with (first | (go_at_call 33; (with_reducible refine HNL.out.mono ?_); rintro e w3 ⟨v3, rfl, hr3, hb3⟩; obtain ⟨a3, cp3, hv3, _⟩ := id hr3; subst hv3; have HR3 := Lib.hid hr3; have HB3 := Lib.hid hb3; obtain ⟨WF, hWF, hkF, hbF⟩ := new1 w3 (.slice a3 (nextL A l).length cp3) 40; have HWF := Lib.hid hWF; have HKF := Lib.hid hkF; have HBF := Lib.hid hbF; have HOF := Lib.hid (own_go (own_go HOL.out hb3) hbF); have HCF : Hid (∀ i u, ([.slice a3 (nextL A l).length cp3] : List Value)[i]? = some u → WF.cell? ((⟨w3.heap.size, 0, none⟩ : Addr).add i) = some u) := World.news_of_block (cs := #[.slice a3 (nextL A l).length cp3]) hkF; have HSF : Hid (w1.heap.size ≤ WF.heap.size) := Nat.le_trans D0.out (Nat.le_trans HGL.out.size (Nat.le_trans hb3.size hbF.size)); clear hr3 hb3 hWF hkF hbF) | (at_builtin; rw [← HWF.out]; refine wpList_append_lies _ rfl _ _ 34 rfl w1.heap.size 40 i0 _ 1 24 Try.underlying34 hi hz0 hz1 hz2 rfl (by decide) _ _ _ rfl HOF.out ⟨w3.heap.size, 0, none⟩ 1 1 [.slice a3 (nextL A l).length cp3] rfl rfl HCF.out (by simp [Value.oneCell']) (by decide) D3.out D4.out HSF.out _ rfl ?_))
  intro gA cA wA hown hgrow hat hltA
  have hB3 : Below w.heap.size w w3 := HBL.out.trans (HB3.out.mono HBL.out.size)
  have hBF : Below w.heap.size w WF := hB3.trans (HBF.out.mono hB3.size)
  have hBA : Below w.heap.size w wA := hBF.grown hgrow hBF.size (fun k hk => Nat.le_trans HB1.out.size (HOF.out.lt k hk).1)
  have hRA := (hBA.block r hrl).trans H1.out
  have hfz := frz hRA 0
  obtain ⟨c0, c1, c2, c3, c4, c5⟩ := cells6 hRA
  have HBA := Lib.hid hBA
  have HRA := Lib.hid hRA
  have HOA := Lib.hid hown
  have HGA := Lib.hid hgrow
  have HAA := Lib.hid hat
  clear hown hgrow hat hB3 hBF hBA hRA
  go_upto_region 5 with (fail)
  obtain ⟨wS, hwS⟩ : ∃ wS, wS = wA.setCell ⟨r, 0, none⟩ (.slice (some ⟨gA, 0, none⟩) (n + 1) cA) := ⟨_, rfl⟩
  have hsS := set0d HRA.out (.slice (some ⟨gA, 0, none⟩) (n + 1) cA)
  rw [← hwS] at hsS ⊢
  have hzS : wS.heap.size = wA.heap.size := by rw [hwS]; simp [World.setCell]
  have hoS : ∀ k, k ≠ r → wS.heap[k]? = wA.heap[k]? := fun k hk => by rw [hwS]; exact set_oth _ _ _ _ hk
  have hF1 : Fr (fun k => k = r) w wS := by rw [hwS]; exact (Fr.below HBA.out).set _ rfl
  have hF3 : Fr (fun k => k = r ∨ k = gL) w3 wS := by
    rw [hwS]
    exact ((Fr.below (E := fun k => k = r ∨ k = gL) HBF.out).trans ((fr_gr HGA.out).mono (E' := fun k => k = r ∨ k = gL) (fun k e => .inr (by have e : some gL = some k := e; injection e with e; exact e.symm))) (fun k e => .inl e)).set _ (.inl rfl)
  have hz1 : w.heap.size ≤ w1.heap.size := HB1.out.size
  have hzL : w.heap.size ≤ wL.heap.size := HBL.out.size
  have hzA : w.heap.size ≤ wA.heap.size := HBA.out.size
  have hgL := HOL.out.lt gL rfl
  have hNr := row_store H3.out H1.out (by decide)
  have hCr := row_store H5.out H1.out (by decide)
  have hvl2 : (vs ++ [Value.slice a3 (nextL A l).length cp3]).length = n + 1 := by rw [List.length_append, HVL.out]; simp
  obtain ⟨gA', eA, hcA, hgB, hgA, hatA⟩ := own1_eq (g := 0) HOA.out hvl2 (by omega)
  have egA : gA = gA' := by injection eA with e; injection e with e
  subst egA
  have hgr : gA ≠ r := by omega
  have hAR : A.length = n := HN.out
  have hIS : IsR (fun k => F k ∨ (w.heap.size ≤ k ∧ k < wS.heap.size)) (Fx G w.heap.size) r (A ++ [nextL A l]) kl vl fl Ns Cs wS := by
    have hnF : ∀ k, F k → k ≠ r := fun k hk e => HI.out.fr.2 (by rw [← e]; exact hk)
    have hup : ∀ k, F k → k < wS.heap.size → (F k ∨ (w.heap.size ≤ k ∧ k < wS.heap.size)) := fun k hk _ => .inl hk
    refine ⟨⟨_, vN, vC, cs, hsS, ⟨gA, cA, by rw [List.length_append, hAR]; rfl, by rw [List.length_append, hAR]; exact hcA, by rw [List.length_append]; simp, .inr ⟨by omega, by omega⟩, by omega, fun i hi => ?_⟩, row_fr H3.out hF1 (fun g e hg => hNr (by rw [e, hg])), fun g e => ⟨.inl (H4.out g e).1, fun hh => hh.elim (H4.out g e).2 (fun e2 => by have := (H3.out.lt g e).2; omega)⟩, row_fr H5.out hF1 (fun g e hg => hCr (by rw [e, hg])), fun g e => ⟨.inl (H6.out g e).1, fun hh => hh.elim (H6.out g e).2 (fun e2 => by have := (H5.out.lt g e).2; omega)⟩, H7.out, fun i hi hj => ((H8.out i hi hj).fr hF1 hnF).up hup⟩, ⟨.inl HI.out.fr.1, fun hh => hh.elim HI.out.fr.2 (fun e => by omega)⟩, fun k hk => hk.elim (fun h => .inl (HI.out.sub k h)) (fun h => .inr h.1)⟩
    have hi' : i < n + 1 := by rw [List.length_append, hAR] at hi; exact hi
    have hat := hatA i (by rw [hvl2]; exact hi')
    refine ⟨_, (World.cell?_of_block (hoS gA hgr)).trans hat, ?_⟩
    by_cases hin : i < n
    · have hiv : i < vs.length := by rw [HVL.out]; omega
      rw [List.getElem_append_left hiv, List.getElem_append_left (by rw [hAR]; exact hin)]
      exact ((HVR.out i (by rw [hAR]; exact hin) hiv).fr hF1 hnF).up hup
    · have hie : i = n := by omega
      subst hie
      have e1 : (vs ++ [Value.slice a3 (nextL A l).length cp3])[i]'(by rw [hvl2]; exact hi') = Value.slice a3 (nextL A l).length cp3 := by
        rw [List.getElem_append_right (by rw [HVL.out]; omega)]; simp
      have e2 : (A ++ [nextL A l])[i] = nextL A l := by
        rw [List.getElem_append_right (by omega)]; simp
      rw [e1, e2]
      refine (HR3.out.fr hF3 (fun k hk e => ?_)).up (fun k hk hlt => ?_)
      · rcases hk with hk | hk <;> rcases e with e | e
        · exact hnF k hk e
        · have := HFB.out k hk; omega
        · omega
        · omega
      · rcases hk with hk | hk
        · exact .inl hk
        · exact .inr ⟨by omega, hlt⟩
  have HC0 : Hid (CmD F G r A kl vl fl Ns Cs l w wS 0) := ⟨_, hIS, fun k hk => hk.elim (fun h => by have := HFB.out k h; omega) (fun h => h.2), hF1.mono (fun k e => by rw [e]; exact HI.out.fr.1)⟩
  clear hIS hsS hoS hF1 hF3 hgL hNr hCr hvl2 eA hatA hgr hwS c0 c1 c2 c3 c4 c5 hfz
  have hC1 := HCM.out
  rw [HT.out] at hC1
  have HLM2 : Hid (∀ c ∈ Cs, c.length ≤ 1000 - t) := fun c hc => by have := HLM.out c hc; rw [HT.out] at this; omega
  go_wp2
  go_loopw [31] (fun iv wr => ∃ j : Nat, j ≤ t ∧ iv = .int .i64 (j : Int) ∧ Hid (CmD F G r A kl vl fl Ns Cs l w wr j)) (fun iv _ => t - (intOf iv).toNat)
  case atStart => exact ⟨0, Nat.zero_le _, rfl, HC0⟩
  case round =>
    obtain ⟨j, hj, rfl, HCJ⟩ := hrel
    clear HB1 HS1 HBE HOE HWE HVL HVC HV1 HVR D1 D2 D0 hn1 hnp HBW HBL HOL HGL HAT D3 D4 HR3 HB3 HWF HKF HBF HOF HCF HSF hltA HBA HRA HOA HGA HAA hzS hz1 hzL hzA hcA hgB hgA HC0 HNX HMY HNL H1 H2 H3 H4 H5 H6 H7 H8 hi hz0 hz2 hrl hFg hg HLM HCM hcc
    obtain ⟨F', hI', hFb', hFr'⟩ := HCJ.out
    have HI' := Lib.hid hI'
    have HFB' := Lib.hid hFb'
    have HFR' := Lib.hid hFr'
    have hzr : w.heap.size ≤ wr.heap.size := hFr'.size
    clear hI' hFb' hFr'
    have hA2 : (A ++ [nextL A l]).length ≤ 100000 := by rw [List.length_append, HN.out]; simp; omega
    by_cases hlt : j < t
    · have hjL : j < l.length := by rw [HT.out]; exact hlt
      have hRC := RdC.fr HLL.out HFR'.out (fun g e => HAC.out g e)
      obtain ⟨gc, rfl, hgc, hat⟩ := rdc_at hRC (by omega)
      obtain ⟨q0, q1, q2⟩ := hat j hjL
      have hj0 : (0 : Int) ≤ (j : Int) := by omega
      have hjl : (j : Int) < (t : Int) := by omega
      have HSN := Lib.hid (putsP_snoc (r := revA A + 1) (s := (Ns, Cs)) hjL)
      obtain ⟨pl1, pl2, pl3⟩ := putsP_len (r := revA A + 1) (l := l) HNC.out HLM2.out j (by omega)
      obtain ⟨⟨x0, x1, x2⟩, hx⟩ : ∃ x : ChT, l[j] = x := ⟨_, rfl⟩
      rw [hx] at q0 q1 q2 HSN
      dsimp only at q0 q1 q2 HSN
      obtain ⟨W1, hW1, hk1, hb1⟩ := Cn.new3 wr (.string x0) (.string x1) (.bool x2) 81
      have hbd : Below wr.heap.size wr W1.drew := hb1.trans ((bdr W1).mono hb1.size)
      have hRV := Rev_r (HI'.out.go hbd) hA2
      rw [revA_sn] at hRV
      have HRV := Lib.hid hRV
      have HPT := Lib.hid (put_r (HI'.out.go hbd) pl1 (by omega) (fun c hc => by have := pl3 c hc; omega) (fun k hk => Nat.lt_of_lt_of_le (HFB'.out k hk) hbd.size) x0 (revA A + 1) x1 x2)
      have HW1 := Lib.hid hW1
      have HBD := Lib.hid hbd
      obtain ⟨d0, d1, d2⟩ := Cn.cells3 hk1
      clear hat hx hjL hW1 hk1 hb1 hbd hRV hRC pl1 pl2 pl3
      obtain ⟨rv, hrv⟩ : ∃ rv, rv = revA A + 1 := ⟨_, rfl⟩
      rw [← hrv] at HRV HPT HSN
      have HRE := Lib.hid hrv
      clear hrv HLL HAC hC1 HLM2 hA2
      go_upto_region 8 with (fail)
      rw [← HW1.out]
      go_region_with (first | (go_at_call 10; (with_reducible refine HRV.out.mono ?_); rintro e w4 ⟨rfl, hw4⟩; subst w4) | (go_at_call 37; (with_reducible refine HPT.out.mono ?_); rintro e w5 ⟨rfl, hp5⟩; have HP5 := Lib.hid hp5; clear hp5))
      all_goals
        obtain ⟨F'', hI'', hF'', _⟩ := HP5.out
        have HC2 : Hid (CmD F G r A kl vl fl Ns Cs l w w5 (j + 1)) := by
          refine ⟨fun k => F'' k ∧ k < w5.heap.size, ?_, fun k hk => hk.2, (HFR'.out.trans (Fr.below HBD.out) (fun k hk => .inl hk)).trans hF'' (fun k hk => hk)⟩
          rw [← HRE.out, HSN.out]
          exact hI''.cut.wide (fun k hk => hk.elim id (fun e => .inr (by have := HBD.out.size; omega)))
        clear hI'' hF''
        go_wp2
        go_roundw
        case rel => exact ⟨j + 1, by omega, by go_num, HC2⟩
        case measure => simp [intOf]; omega
    · have hjl : ¬ (j : Int) < (t : Int) := by omega
      have hjt : j = t := by omega
      have hRV := Rev_r HI'.out hA2
      rw [revA_sn] at hRV
      have HRV := Lib.hid hRV
      have HCE : Hid (CmD F G r A kl vl fl Ns Cs l w wr t) := by rw [← hjt]; exact HCJ
      clear hRV hjt
      go_wp2_with (go_at_call 10; (with_reducible refine HRV.out.mono ?_); rintro e w4 ⟨rfl, hw4⟩; subst w4)
      refine bodyPost_ret (v := .tuple #[.int .i64 (revA A + 1), .int .i64 0]) (by simp [results, Try.results22, go_sem]) rfl ⟨rfl, HCE.out⟩
end Go.Proofs.Ytjceofkcahfhmaa.Mv
