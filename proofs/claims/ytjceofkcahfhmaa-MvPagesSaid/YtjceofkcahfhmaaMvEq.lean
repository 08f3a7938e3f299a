/- The law MvPages answers yes; no other condition. -/
import Derived.Test.YtjceofkcahfhmaaMvEo
namespace Go.Proofs.Ytjceofkcahfhmaa.Mv
open Go.RowKit Go.Lib Go.Maps Go.Shelf Go.Sort
open Go.Proofs.Ytjceofkcahfhmaa.Cn
set_option linter.unusedSimpArgs false
set_option linter.unusedVariables false

theorem Jn.fr {Z E : Nat → Prop} {c r n : Nat} {l0 l9 : Int} {X : Sx} {w V : World} (h : Jn Z c r l0 l9 n X w) (hf : Fr E w V) (hE : ∀ k, E k → Z k) : Jn Z c r l0 l9 n X V := by
  obtain ⟨hp, N, mb, od, F, G, hN, hJ⟩ := h
  exact ⟨hp, N, mb, od, F, G, hN, ⟨hJ.is.fr hf (fun k hk e => hJ.lo k (.inl (.inl hk)) (hE k e)), hJ.ok.keep hf (fun g hg e => hJ.lo g (.inl hg) (hE g e)), hJ.rf.kept hf (fun k hk e => hJ.lo k (.inr hk) (hE k e)), fun k hk => Nat.lt_of_lt_of_le (hJ.fb k hk) hf.size, fun k hk => ⟨Nat.lt_of_lt_of_le (hJ.gs k hk).1 hf.size, (hJ.gs k hk).2⟩, hJ.lo⟩⟩
theorem Jn.more {Z : Nat → Prop} {c r n : Nat} {l0 l9 : Int} {X : Sx} {w : World} (h : Jn Z c r l0 l9 n X w) : Jn (fun z => Z z ∨ w.heap.size ≤ z) c r l0 l9 n X w := by
  obtain ⟨hp, N, mb, od, F, G, hN, hJ⟩ := h
  refine ⟨hp, N, mb, od, F, G, hN, ⟨hJ.is, hJ.ok, hJ.rf, hJ.fb, hJ.gs, fun k hk z => ?_⟩⟩
  rcases z with z | z
  · exact hJ.lo k hk z
  · rcases hk with hk | hk
    · have := owd_lt hJ.is hJ.ok hk; omega
    · have := (hJ.gs k hk).1; omega
def Zq (n : Nat) (v g : Value) (z : Nat) : Prop := z < n ∨ v.ownBlock = some z ∨ g.ownBlock = some z
theorem iC_app (a b : List ItT) : iC (a ++ b) = iC a ++ iC b := by unfold iC; simp
theorem iC_one (l : List ItT) : ∀ u ∈ iC l, u.oneCell' = true := by
  intro u hu
  unfold iC at hu
  obtain ⟨x, _, h⟩ := List.mem_flatMap.1 hu
  exact encI_ok x u h
set_option maxRecDepth 100000 in
set_option maxHeartbeats 8000000 in
theorem pages_law (a : Option Addr) (len cap : Nat) (ts : List OpT) (p : ByteArray) (n : Int) (hn : (Lit.int .u8 n).wf = true) (w : World) (h : IsOps w a len ts) :
    Calls Try.prog 4 #[.slice a len cap, .string p, .int .u8 n] w fun e w' => e = .returned (.bool true) ∧ Below w.heap.size w w' := by
  have hn01 : 0 ≤ n ∧ n ≤ 255 := by
    simp [Lit.wf, IntKind.min, IntKind.max, IntKind.signed, IntKind.bits] at hn
    omega
  obtain ⟨nN, rfl⟩ : ∃ nN : Nat, n = (nN : Int) := ⟨n.toNat, by omega⟩
  have hnb : nN ≤ 255 := by omega
  have HI := Lib.hid h
  have hlen := h.2.1
  simp only [maxLen] at hlen
  clear h hn hn01
  have HN1 := Lib.hid (New_c 20 100 w)
  go_enter Try.func4, Try.ntmps4
  go_upto_region 2 with (first | (go_at_call 6; (with_reducible refine HN1.out.mono ?_); rintro e w1 ⟨rfl, hn1, hb1⟩; have HX1 := Lib.hid hn1; have HB1 := Lib.hid hb1; have HN2 := Lib.hid (NewR_c 20 100 w1); clear hn1 hb1) | (go_at_call 7; (with_reducible refine HN2.out.mono ?_); rintro e w2 ⟨rfl, hn2, hn3, hb2⟩; have HX2 := Lib.hid hn2; have HX3 := Lib.hid hn3; have HB2 := Lib.hid hb2; clear hn2 hn3 hb2))
  obtain ⟨c, hc⟩ : ∃ c, c = w.heap.size + 1 := ⟨_, rfl⟩
  rw [← hc] at HX1 ⊢
  have K0 := Lib.hid (new_both 20 100 hc HX1.out HB1.out HX2.out HX3.out HB2.out)
  clear HX1 HX2 HX3 HB2 HB1 hc
  generalize w1.heap.size + 1 = r at K0 ⊢
  have HZ : Hid (∀ z, z < w.heap.size → z < w.heap.size) := fun z hz => hz
  go_wp2
  go_loopw [26] (fun iv wr => ∃ (j : Nat) (X : Sx), j ≤ len ∧ iv = .int .i64 (j : Int) ∧ Hid (Jn (fun z => z < w.heap.size) c r 20 100 (min j 20) X wr ∧ True) ∧ Hid (Below w.heap.size w wr)) (fun iv _ => len - (intOf iv).toNat)
  case atStart => exact ⟨0, X0, Nat.zero_le _, rfl, Lib.hid ⟨K0.out.1, trivial⟩, Lib.hid K0.out.2⟩
  case round =>
    clear K0
    obtain ⟨j, X, hj, rfl, HJ, HB⟩ := hrel
    have hzw : w.heap.size ≤ wr.heap.size := HB.out.size
    by_cases hlt : j < len
    · have hI := HI.out.go HB.out
      have hjt : j < ts.length := by rw [hI.1]; exact hlt
      obtain ⟨g, off, rfl, hg, hat⟩ := hI.2.2.2 (by omega)
      obtain ⟨p0, p1, p2, p3, p4, p5⟩ := hat j hjt
      have hj0 : (0 : Int) ≤ (j : Int) := by omega
      have hjl : (j : Int) < (len : Int) := by omega
      have hOK := hI.2.2.1 ts[j] (List.getElem_mem _)
      obtain ⟨⟨k, v, cs, rv, ky, pf, nn⟩, ho⟩ : ∃ o : OpT, ts[j] = o := ⟨_, rfl⟩
      rw [ho] at p0 p1 p2 p3 p4 p5 hOK
      dsimp only at p0 p1 p2 p3 p4 p5
      obtain ⟨av, cv, hv, _⟩ := id hOK.1
      dsimp only at hv
      subst hv
      obtain ⟨W1, hW1, hk1, hb1⟩ := new6 wr (.int .i64 k) (.slice av cs.length cv) (.int .i64 rv) (.string ky) (.string pf) (.int .i64 nn) 31
      have HW1 := Lib.hid hW1
      have hgn : g ≠ wr.heap.size := by omega
      obtain ⟨q0, q1, q2, q3, q4, q5⟩ := cells6 hk1
      have HB1 : Hid (Below w.heap.size w W1) := HB.out.trans (hb1.mono hzw)
      have HJ1 : Hid (Jn (fun z => z < w.heap.size) c r 20 100 (min j 20) X W1) := HJ.out.1.go hb1
      have HBW := Lib.hid hb1
      have HO1 := Lib.hid (hOK.go hb1)
      clear hat ho hW1 hk1 hb1 hOK hI hjt
      by_cases h15 : j < 20
      · have h15i : (j : Int) < 20 := by omega
        have hmn : min (j + 1) 20 = min j 20 + 1 := by omega
        have HST := Lib.hid (step_c HJ1.out (by omega) (fun z hz => Nat.lt_of_lt_of_le (HZ.out z hz) (Nat.le_trans hzw HBW.out.size)) k _ cs rv ky pf nn HO1.out)
        go_upto_region 5 with (fail)
        rw [← HW1.out]
        go_wp2_with (go_at_call 8; (with_reducible refine HST.out.mono ?_); rintro e w5 ⟨rfl, X', hj5, hg5, hf5⟩; have HJ5 := Lib.hid hj5; have HG5 := Lib.hid hg5; have HF5 := Lib.hid hf5; clear hj5 hg5 hf5)
        go_roundw
        case rel => exact ⟨j + 1, X', by omega, by go_num, Lib.hid ⟨by rw [hmn]; exact HJ5.out, trivial⟩, Lib.hid (HB1.out.trans (fr_below HF5.out (fun z hz => hz) HB1.out.size))⟩
        case measure => simp [intOf]; omega
      · have h15i : ¬ (j : Int) < 20 := by omega
        have hmn : min (j + 1) 20 = min j 20 := by omega
        go_upto_region 5 with (fail)
        rw [← HW1.out]
        go_wp2
        go_roundw
        case rel => exact ⟨j + 1, X, by omega, by go_num, Lib.hid ⟨by rw [hmn]; exact HJ1.out, trivial⟩, HB1⟩
        case measure => simp [intOf]; omega
    · have hjl : ¬ (j : Int) < (len : Int) := by omega
      have HJX := Lib.hid (HJ.out.1.le (m := 20) (by omega))
      have HP1 : Hid (Pln 20 X) := HJX.out.1
      obtain ⟨g0, na0, cap0, hrd0⟩ := HJX.out.reads (by omega)
      have HRV0 := Lib.hid hrd0.rv
      have e1 : rgW X.A X.fl p ⟨#[]⟩ 1000 X.rev = ((allP X p ⟨#[]⟩).take 1000, decide (1000 < (allP X p ⟨#[]⟩).length), 0) := rgW_rev HP1.out p ⟨#[]⟩ 1000
      have hal := allP_len HP1.out p ⟨#[]⟩
      rw [List.take_of_length_le (by omega)] at e1
      have HR1 := Lib.hid (range_j HJX.out (by omega) (fun z hz => Nat.lt_of_lt_of_le hz hzw) p ⟨#[]⟩ 1000 X.rev)
      rw [e1] at HR1
      dsimp only at HR1
      obtain ⟨L, hL⟩ : ∃ L, L = allP X p ⟨#[]⟩ := ⟨_, rfl⟩
      have HLE := Lib.hid hL
      rw [← hL] at HR1 hal
      obtain ⟨nL, hnL⟩ : ∃ nL, nL = L.length := ⟨_, rfl⟩
      have HNL : Hid (L.length = nL) := hnL.symm
      rw [← hnL] at HR1 hal
      clear e1 hL hnL hrd0
      go_upto_region 9 with (first | (go_at_call 9; (with_reducible refine HRV0.out.mono ?_); rintro e w2 ⟨rfl, hw2⟩; subst w2) | (go_at_call 15; (with_reducible refine HR1.out.mono ?_); rintro e w2b ⟨v1, M1, rfl, hM1, ho1, hj1, hf1⟩; have HO1 := Lib.hid ho1; have K1 := Lib.hid hj1; have HF1 := Lib.hid hf1; clear ho1 hj1 hf1 hM1))
      have HBb : Hid (Below w.heap.size w w2b) := HB.out.trans (fr_below HF1.out (fun z hz => hz) hzw)
      have K2 : Hid (Jn (Zq w.heap.size v1 (.slice none 0 0)) c r 20 100 20 X w2b) := K1.out.weak (fun k hk => hk.elim .inl (fun e => e.elim .inr (fun e => by cases e)))
      have HAW := Lib.hid awake_c
      have HOL : Hid (w2b.ownsRow M1 49 3 v1 nL (iC L)) := by show World.ownsRow _ _ _ _ _ _ _; rw [← HNL.out]; exact HO1.out
      have HM1 : Hid (w.heap.size ≤ M1 ∨ True) := .inr trivial
      clear HJ HB HJX HR1 HF1 hjl hj hzw K1 HRV0 HZ HO1 HM1
      go_upto_region 12 with (fail)
      go_loopw [16, 14, 15] (fun kv gv av wr => ∃ (k t : Nat) (aft : ByteArray), kv = .int .i64 (k : Int) ∧ av = .string aft ∧ k ≤ t ∧ (t < nL ∨ (t = 0 ∧ k = 0)) ∧ Hid (allP X p aft = L.drop t) ∧ Hid (OwG w.heap.size 3 t gv (iC (L.take t)) wr) ∧ Hid (Jn (Zq w.heap.size v1 gv) c r 20 100 20 X wr) ∧ Hid (Below w.heap.size w wr) ∧ Hid (wr.ownsRow M1 49 3 v1 nL (iC L)) ∧ Hid (∀ g, gv.ownBlock = some g → v1.ownBlock ≠ some g)) (fun kv _ _ _ => nL + 1 - (intOf kv).toNat)
      case atStart => exact ⟨0, 0, ⟨#[]⟩, rfl, rfl, Nat.le_refl _, .inr ⟨rfl, rfl⟩, Lib.hid HLE.out.symm, Lib.hid (OwG.nil _ _ _), K2, HBb, HOL, Lib.hid (fun g e => by cases e)⟩
      case round =>
        clear K2 HBb HOL
        obtain ⟨k, t, aft, rfl, rfl, hkt, htn, HA, HG, HJ, HB, HV, HD⟩ := hrel
        obtain ⟨ag, cg, rfl, _, _⟩ := HG.out.form
        obtain ⟨a1, p1, hv1⟩ := own_form HV.out
        subst hv1
        have hzw : w.heap.size ≤ wr.heap.size := HB.out.size
        have hk1 : (k : Int) ≤ (nL : Int) := by omega
        have hzq : ∀ z, Zq w.heap.size (.slice a1 nL p1) (.slice ag t cg) z → z < wr.heap.size := fun z hz => by
          rcases hz with hz | hz | hz
          · omega
          · exact (HV.out.lt z hz).2
          · exact (HG.out.lt z hz).2
        obtain ⟨g0, na0, cap0, hrd0⟩ := HJ.out.reads (by omega)
        have HRV := Lib.hid hrd0.rv
        obtain ⟨m, hm⟩ : ∃ m : Nat, m = 1 + nN % 5 := ⟨_, rfl⟩
        have hmi : (1 : Int) + (nN : Int) % 5 = (m : Int) := by omega
        have hm1 : 1 ≤ m := by omega
        have hm5 : m ≤ 5 := by omega
        have HRG := Lib.hid (range_j HJ.out (by omega) hzq p aft (m : Int) X.rev)
        rw [rgW_rev HP1.out p aft m, HA.out] at HRG
        dsimp only at HRG
        have hF1 : ((L.drop t).take m).length = min m (nL - t) := by rw [List.length_take, List.length_drop, HNL.out]
        have hF2 : (L.drop t).length = nL - t := by rw [List.length_drop, HNL.out]
        rw [hF2] at HRG
        obtain ⟨F, hF⟩ : ∃ F, F = (L.drop t).take m := ⟨_, rfl⟩
        rw [← hF] at HRG hF1
        have HFE := Lib.hid hF
        clear hrd0 hF hm hF2

        go_upto_region 17 with (first | (go_at_call 9; (with_reducible refine HRV.out.mono ?_); rintro e w2 ⟨rfl, hw2⟩; subst w2) | (go_at_call 15; (with_reducible refine HRG.out.mono ?_); rintro e w5 ⟨v5, M5, rfl, hM5, ho5, hj5, hf5⟩; have HO5 := Lib.hid ho5; have HJ5 := Lib.hid hj5; have HF5 := Lib.hid hf5; have HM5 := Lib.hid hM5; clear ho5 hj5 hf5 hM5))
        obtain ⟨a5, p5, hv5⟩ := own_form HO5.out
        subst hv5
        obtain ⟨fl, hfl⟩ : ∃ fl, fl = F.length := ⟨_, rfl⟩
        have HFL : Hid (F.length = fl) := hfl.symm
        rw [← hfl] at HO5 hF1 ⊢
        obtain ⟨i0, hi, hz0, hz1, hz2⟩ := info_parts infoI
        have hB5 : Below w.heap.size w w5 := HB.out.trans (fr_below HF5.out (fun z hz => .inl hz) hzw)
        have hG5 : OwG w.heap.size 3 t (.slice ag t cg) (iC (L.take t)) w5 := HG.out.kept HF5.out.size (fun g e => HF5.out.block g (HG.out.lt g e).2 (fun hn => hn (.inr (.inr e))))
        have hV5 : w5.ownsRow M1 49 3 (.slice a1 nL p1) nL (iC L) := row_fr HV.out HF5.out (fun g e hn => hn (.inr (.inl e)))
        have hx5 : Rd fl (iC F) (.slice a5 fl p5) w5 := by have := OwG.rd (OwG.of_own HO5.out); rw [HFL.out] at this; exact this
        obtain ⟨gv', W', hrun, hG6, hgr, hbk⟩ := ap_run (P := Try.prog) (t := 41) Try.underlying41 hi hz0 hz1 hz2 rfl hG5 hx5 (by rw [iC_len, HFL.out]) (iC_one F) hB5.size (by unfold maxLen; omega) (by omega)
        have hV6 : W'.ownsRow M1 49 3 (.slice a1 nL p1) nL (iC L) := row_gr hV5 hgr (fun g e1 e2 => HD.out g e2 e1)
        have HO6 : Hid (W'.ownsRow M5 49 3 (.slice a5 fl p5) F.length (iC F)) := row_gr HO5.out hgr (fun g e1 e2 => by have h1 := (HO5.out.lt g e1).1; have h2 := (HG.out.lt g e2).2; have := HM5.out; omega)
        have HB6 : Hid (Below w.heap.size w W') := hB5.grown hgr hB5.size (fun q hq => (hG5.lt q hq).1)
        have HD6 : Hid (∀ g, gv'.ownBlock = some g → (Value.slice a1 nL p1).ownBlock ≠ some g) := fun g e e2 => by
          rcases hbk with hb | hb
          · rw [hb] at e; exact HD.out g e e2
          · rw [hb] at e; injection e with e; have := (hV5.lt g e2).2; omega
        have HJ6 : Hid (Jn (Zq w.heap.size (.slice a1 nL p1) gv') c r 20 100 20 X W') := (HJ5.out.more.fr (fr_gr hgr) (fun k e => .inl (.inl (.inr (.inr e))))).weak (fun z hz => by
          rcases hz with h | h | h
          · exact .inl (.inl (.inl h))
          · exact .inl (.inl (.inr (.inl h)))
          · rcases hbk with hb | hb
            · rw [hb] at h; exact .inl (.inl (.inr (.inr h)))
            · rw [hb] at h; injection h with h; exact .inr (by omega))
        have hcat : iC (L.take t) ++ iC F = iC (L.take (t + fl)) := by
          rw [← iC_app, HFE.out, ← List.take_add]
          by_cases hmm : m ≤ nL - t
          · rw [hF1, Nat.min_eq_left hmm]
          · rw [hF1, Nat.min_eq_right (by omega), List.take_of_length_le (by rw [HNL.out]; omega), List.take_of_length_le (by rw [HNL.out]; omega)]
        rw [hcat] at hG6
        obtain ⟨ag6, cg6, rfl, _, _⟩ := hG6.form
        have HRUN := Lib.hid hrun
        have HG6 := Lib.hid hG6
        have HV6 := Lib.hid hV6
        clear hrun hG6 hgr hbk hV6 hcat hx5 hV5 hG5 hB5 hi hz0 hz1 hz2 HRG HRV HO5 HJ5 HF5 HG HJ HB HV HD hfl hzq
        by_cases hmo : m < nL - t
        · have hfm : fl = m := by omega
          have hf0 : ¬ (fl : Int) = 0 := by omega
          have hq : IntKind.i64.wrap ((fl : Int) - 1) = (fl : Int) - 1 := by rw [IntKind.wrap_i64]; omega
          have hqn : (fl : Int) - 1 < (fl : Int) := by omega
          have hq0 : (0 : Int) ≤ (fl : Int) - 1 := by omega
          have hqt : ((fl : Int) - 1).toNat = fl - 1 := by omega
          obtain ⟨g6, rfl, _, hg6, hat6⟩ := rdi_at (OwI.rd HO6.out) (by rw [HFL.out]; omega)
          have hlast : fl - 1 < F.length := by rw [HFL.out]; omega
          have d0 := (hat6 (fl - 1) hlast).1
          have htl : t + (fl - 1) < L.length := by rw [HNL.out]; omega
          have hFl : F[fl - 1] = L[t + (fl - 1)] := by
            have h1 : F[fl - 1]? = some L[t + (fl - 1)] := by
              rw [HFE.out, List.getElem?_take_of_lt (by omega), List.getElem?_drop, List.getElem?_eq_getElem htl]
            rw [List.getElem?_eq_getElem hlast] at h1
            injection h1
          rw [hFl] at d0
          have HAF : Hid (allP X p L[t + (fl - 1)].1 = L.drop (t + fl)) := by
            have htl' : t + (fl - 1) < (allP X p ⟨#[]⟩).length := by rw [← HLE.out]; exact htl
            have h1 := allP_after HP1.out p htl'
            have h2 : (allP X p ⟨#[]⟩)[t + (fl - 1)] = L[t + (fl - 1)] := by
              have h3 : (allP X p ⟨#[]⟩)[t + (fl - 1)]? = L[t + (fl - 1)]? := by rw [HLE.out]
              rw [List.getElem?_eq_getElem htl', List.getElem?_eq_getElem htl] at h3
              injection h3
            rw [h2, ← HLE.out, show t + (fl - 1) + 1 = t + fl by omega] at h1
            exact h1
          generalize L[t + (fl - 1)].1 = aft2 at d0 HAF
          have hfl1 : 1 ≤ fl := by omega
          have hlt2 : t + fl < nL := by omega
          clear hat6 hFl htl hF1 hfm
          go_wp2_with (at_builtin; refine wpList_append_eq rfl _ _ 41 rfl rfl rfl HRUN.out ?_)
          go_wp2
          go_roundw
          case rel => exact ⟨k + 1, t + fl, aft2, by go_num, rfl, by omega, .inl (by omega), HAF, HG6, HJ6, HB6, HV6, HD6⟩
          case measure => simp [intOf]; omega
        · have htf : t + fl = nL := by omega
          rw [htf] at HG6 HRUN HJ6 HD6
          rw [List.take_of_length_le (by rw [HNL.out]; omega)] at HG6
          clear HO6 hF1
          go_wp2_with (at_builtin; refine wpList_append_eq rfl _ _ 41 rfl rfl rfl HRUN.out ?_)
          go_loopw [95] (fun iv wr => ∃ i : Nat, i ≤ nL ∧ iv = .int .i64 (i : Int) ∧ Hid (Below W'.heap.size W' wr)) (fun iv _ => nL - (intOf iv).toNat)
          case atStart => exact ⟨0, Nat.zero_le _, rfl, Lib.hid (Below.refl _ _)⟩
          case round =>
            obtain ⟨i, hi, rfl, HBX⟩ := hrel
            by_cases hlt : i < nL
            · have hiL : i < L.length := by rw [HNL.out]; exact hlt
              obtain ⟨g1, o1, rfl, hg1, hat1⟩ := (HG6.out.rd.go HBX.out).at (by omega)
              have hrd : RdN (.slice a1 L.length p1) L wr := by
                have h1 : OwI M1 (.slice a1 L.length p1) L wr := by show World.ownsRow _ _ _ _ _ _ _; rw [HNL.out]; exact own_go HV6.out HBX.out
                exact h1.rd
              rw [HNL.out] at hrd
              obtain ⟨g2, rfl, _, hg2, hat2⟩ := rdi_at hrd (by omega)
              obtain ⟨u0, u1, u2⟩ := iC_at L i hiL
              have p0 := hat1 _ _ u0
              have p1' := hat1 _ _ u1
              have p2 := hat1 _ _ u2
              rw [← Nat.add_assoc] at p1' p2
              obtain ⟨q0, q1, q2⟩ := hat2 i hiL
              have hi0 : (0 : Int) ≤ (i : Int) := by omega
              have hil : (i : Int) < (nL : Int) := by omega
              obtain ⟨⟨x1, x2, x3⟩, hx⟩ : ∃ x : ItT, L[i] = x := ⟨_, rfl⟩
              rw [hx] at p0 p1' p2 q0 q1 q2
              dsimp only at p0 p1' p2 q0 q1 q2
              have hN : ∀ W : World, (binOp .neq 49 (.agg #[.string x1, .string x2, .int .i64 x3]) (.agg #[.string x1, .string x2, .int .i64 x3])).run Try.prog W = .ok (.bool false) W := fun W => eqIs .neq (x1, x2, x3) W (.inr rfl)
              clear hat1 hat2 hx hiL u0 u1 u2 hrd
              go_wp2
              go_quiet (fail)
              go_wp2
              go_roundw
              case rel => exact ⟨i + 1, by omega, by go_num, Lib.hid (HBX.out.trans ((bdrN wr _).mono HBX.out.size))⟩
              case measure => simp [intOf]; omega
            · have hil : ¬ (i : Int) < (nL : Int) := by omega
              go_wp2_with (go_at_call 17; (with_reducible refine (HAW.out _).mono ?_); rintro e w6 ⟨rfl, hb6⟩; have HBY := Lib.hid hb6; clear hb6)
              go_ret
              exact ⟨rfl, HB6.out.trans ((HBX.out.mono HB6.out.size).trans (HBY.out.mono (Nat.le_trans HB6.out.size HBX.out.size)))⟩
end Go.Proofs.Ytjceofkcahfhmaa.Mv
