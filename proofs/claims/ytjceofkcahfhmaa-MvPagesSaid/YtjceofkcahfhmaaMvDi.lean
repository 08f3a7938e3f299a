/- The document's store: Compact; no other condition. -/
import Derived.Test.YtjceofkcahfhmaaMvDh
namespace Go.Proofs.Ytjceofkcahfhmaa.Mv
open Go.RowKit Go.Lib Go.Maps Go.Shelf Go.Sort
open Go.Proofs.Ytjceofkcahfhmaa.Cn
set_option linter.unusedSimpArgs false
set_option linter.unusedVariables false

set_option maxRecDepth 100000 in
set_option maxHeartbeats 2000000 in
theorem CompactD_no {F G : Nat → Prop} {r : Nat} {A : List (List ItT)} {kl vl fl : Int} {Ns : List Key} {Cs : List (List Ver)} {w : World} (h : IsR F G r A kl vl fl Ns Cs w) (hA : A.length ≤ 100000) (q : Int) (hq : q < fl ∨ revA A < q) :
    Calls Try.prog 24 #[.pointer (some ⟨r, 0, none⟩), .int .i64 q] w fun e w' => e = .returned (.int .i64 1) ∧ w' = w := by
  have HR := Lib.hid (Rev_r h hA)
  obtain ⟨vA, vN, vC, cs, h1, _⟩ := h.ex
  obtain ⟨c0, c1, c2, c3, c4, c5⟩ := cells6 h1
  clear h1 h
  generalize revA A = m at *
  by_cases d0 : q < fl
  · clear hq
    go_enter Try.func24, Try.ntmps24
    go_wp2
    go_ret
    exact ⟨rfl, rfl⟩
  · have d1 : m < q := by omega
    have d1' : q > m := d1
    clear hq
    go_enter Try.func24, Try.ntmps24
    go_wp2_with (go_at_call 10; (with_reducible refine HR.out.mono ?_); rintro e w1 ⟨rfl, hw1⟩; subst w1)
    go_ret
    exact ⟨rfl, rfl⟩
theorem set3d {w : World} {r : Nat} {a0 a4 a5 : Value} {kl vl fl : Int} (h : w.heap[r]? = some (.cells #[a0, .int .i64 kl, .int .i64 vl, .int .i64 fl, a4, a5] 38 (0, 0))) (u : Int) : (w.setCell ⟨r, 3, none⟩ (.int .i64 u)).heap[r]? = some (.cells #[a0, .int .i64 kl, .int .i64 vl, .int .i64 u, a4, a5] 38 (0, 0)) := by
  have := Cn.blk_set h 3 (.int .i64 u); simpa using this
theorem map_take_set (Cs : List (List Ver)) (q : Int) (j : Nat) (hj : j < Cs.length) : (if j < j + 1 then cmp Cs[j] q else Cs[j]) = cmp Cs[j] q := if_pos (by omega)
set_option maxRecDepth 100000 in
set_option maxHeartbeats 8000000 in
theorem CompactD_ok {F G : Nat → Prop} {r : Nat} {A : List (List ItT)} {kl vl fl : Int} {Ns : List Key} {Cs : List (List Ver)} {w : World} (h : IsR F G r A kl vl fl Ns Cs w) (hA : A.length ≤ 100000) (hC : Cs.length ≤ 1000) (hL : ∀ c ∈ Cs, c.length ≤ 1000 ∧ Asc c) (q : Int) (hq0 : fl ≤ q) (hq1 : q ≤ revA A) :
    Calls Try.prog 24 #[.pointer (some ⟨r, 0, none⟩), .int .i64 q] w fun e w' => e = .returned (.int .i64 0) ∧ IsR (Fx F w.heap.size) (Fx G w.heap.size) r A kl vl q Ns (Cs.map fun c => cmp c q) w' ∧ Fr G w w' := by
  have HR := Lib.hid (Rev_r h hA)
  have HI := Lib.hid h
  obtain ⟨vA, vN, vC, cs, h1, h2, h3, h4, h5, h6, h7, h8⟩ := h.ex
  have hrl : r < w.heap.size := (Array.getElem?_eq_some_iff.1 h1).1
  obtain ⟨c0, c1, c2, c3, c4, c5⟩ := cells6 h1
  have f3 := frz h1 3
  obtain ⟨aC, capC, hvC⟩ := own_form h5
  subst hvC
  obtain ⟨W1, hW1⟩ : ∃ W1, W1 = w.setCell ⟨r, 3, none⟩ (.int .i64 q) := ⟨_, rfl⟩
  have hs1 := set3d h1 q
  rw [← hW1] at hs1
  have hz1 : W1.heap.size = w.heap.size := by rw [hW1]; simp [World.setCell]
  have ho1 : ∀ k, k ≠ r → W1.heap[k]? = w.heap[k]? := fun k hk => by rw [hW1]; exact set_oth _ _ _ _ hk
  have hNr := row_store h3 h1 (by decide)
  have hCr := row_store h5 h1 (by decide)
  have hF1 : Fr (fun k => k = r) w W1 := by rw [hW1]; exact (Fr.refl _ w).set _ rfl
  have HS1 := Lib.hid hs1
  have HF1 := Lib.hid hF1
  have H1 := Lib.hid h1
  have H2 := Lib.hid h2
  have H3 := Lib.hid h3
  have H4 := Lib.hid h4
  have H5 : Hid (W1.ownsRow 0 71 1 (.slice aC Cs.length capC) Cs.length cs) := row_fr h5 hF1 (fun g e hg => hCr (by rw [e, hg]))
  have H5w := Lib.hid h5
  have H6 := Lib.hid h6
  have H7 := Lib.hid h7
  have H8 : Hid (∀ i (hi : i < Cs.length) (hj : i < cs.length), RdVF F cs[i] Cs[i] W1) := fun i hi hj => (h8 i hi hj).fr hF1 (fun k hk e => HI.out.fr.2 (by rw [← e]; exact hk))
  have HL := Lib.hid hL
  have HW1 := Lib.hid hW1
  have HNR := Lib.hid hNr
  have HCR := Lib.hid hCr
  have hz1' := hz1
  obtain ⟨n, hn⟩ : ∃ n, n = Cs.length := ⟨_, rfl⟩
  have HCn : Hid (Cs.length = n) := hn.symm
  have HCS : Hid (cs.length = n) := by show _ = _; omega
  have hnb : n ≤ 1000 := by omega
  rw [← hn] at c5
  have d0 : ¬ q < fl := by omega
  generalize hm : revA A = m at HR hq1
  have d1 : ¬ m < q := by omega
  have d1' : ¬ q > m := d1
  clear h h1 h2 h3 h4 h5 h6 h7 h8 hL hs1 ho1 hNr hCr hF1 hW1 hn hm hq0 hq1
  go_enter Try.func24, Try.ntmps24
  go_upto_region 3 with (go_at_call 10; (with_reducible refine HR.out.mono ?_); rintro e w1 ⟨rfl, hw1⟩; subst w1)
  go_upto_region 4 with (fail)
  rw [← HW1.out]
  clear c0 c1 c2 c3 c4 c5 f3 d0 d1 d1'
  have hs1 := HS1.out
  rw [HCn.out] at hs1
  obtain ⟨c0, c1, c2, c3, c4, c5⟩ := cells6 hs1
  go_wp2
  clear c0 c1 c2 c3 c4 c5 hs1
  go_loopw [28] (fun iv wr => ∃ (j : Nat) (ds : List Value), j ≤ n ∧ iv = .int .i64 (j : Int) ∧ Hid (ds.length = n) ∧ Hid (wr.ownsRow 0 71 1 (.slice aC n capC) n ds) ∧ Hid (∀ i (hi : i < Cs.length) (hj : i < ds.length), RdVF (Fx F w.heap.size) ds[i] (if i < j then cmp Cs[i] q else Cs[i]) wr) ∧ Hid (Fr (fun k => (Value.slice aC n capC).ownBlock = some k) W1 wr)) (fun iv _ => n - (intOf iv).toNat)
  case atStart => exact ⟨0, cs, by omega, rfl, HCS, by rw [← HCn.out]; exact H5, Lib.hid (fun i hi hj => by rw [if_neg (by omega)]; exact (H8.out i hi hj).up (fun k hk _ => .inl hk)), Lib.hid (Fr.refl _ _)⟩
  case round =>
    obtain ⟨j, ds, hj, rfl, HDL, HO, HV, HF⟩ := hrel
    have hzr : w.heap.size ≤ wr.heap.size := by have := HF.out.size; omega
    have HSR : Hid (wr.heap[r]? = some (.cells #[vA, .int .i64 kl, .int .i64 vl, .int .i64 q, vN, .slice aC n capC] 38 (0, 0))) := by
      have := HS1.out
      rw [HCn.out] at this
      exact (HF.out.block r (by omega) (fun e => HCR.out (by rw [← e, HCn.out]))).trans this
    by_cases hlt : j < n
    · have hjC : j < Cs.length := by rw [HCn.out]; exact hlt
      have hjd : j < ds.length := by rw [HDL.out]; exact hlt
      obtain ⟨gC, rfl, hcn, _, hgC, hat⟩ := own1_eq (g := 0) HO.out HDL.out (by omega)
      have a0 := hat j hjd
      have hv := HV.out j hjC hjd
      rw [if_neg (by omega)] at hv
      obtain ⟨ao, cap, hve, -⟩ := id hv
      rw [hve] at a0 hv
      have hj0 : (0 : Int) ≤ (j : Int) := by omega
      have hjl : (j : Int) < (n : Int) := by omega
      have hlj := HL.out _ (List.getElem_mem hjC)
      have HCC := Lib.hid (CompactR_c ao cap Cs[j] q wr.drew (hv.rd.go (bdr wr)) hlj.2 (by omega))
      have HAF : Hid (∀ V, Below wr.heap.size wr V → V.cell? ⟨r, 5, none⟩ = some (.slice (some ⟨gC, 0, none⟩) n capC) ∧ V.frozen? ⟨gC, j, none⟩ = false) := fun V hV => ⟨(cells6 ((hV.block r (by omega)).trans HSR.out)).2.2.2.2.2, own_frz (own_go HO.out hV) j⟩
      obtain ⟨k5, kf⟩ := HAF.out wr (Below.refl _ _)
      have HCJ := Lib.hid hjC
      have hgr : gC ≠ r := fun e => HCR.out (by rw [e]; rfl)
      have HGR := Lib.hid hgr
      have ha1 : ∀ V, Below wr.heap.size wr V → V.cell? ⟨gC, j, none⟩ = some (.slice ao Cs[j].length cap) := fun V hV => (hV.cell (p := ⟨gC, j, none⟩) hgC).trans a0
      have HA1 := Lib.hid ha1
      have HGC : Hid (gC < wr.heap.size) := hgC
      clear hat hv hve hjd hlj hgr ha1 hgC
      go_upto_region 7 with (fail)
      have k5d : wr.drew.cell? ⟨r, 5, none⟩ = some (.slice (some ⟨gC, 0, none⟩) n capC) := k5
      go_region_with (go_at_call 40; (with_reducible refine HCC.out.mono ?_); rintro e w5 ⟨v5, rfl, ho5, hb5⟩; obtain ⟨a5, cp5, hv5⟩ := own_form ho5; subst hv5; have hb5' : Below wr.heap.size wr w5 := ⟨hb5.os, hb5.tape, hb5.output, hb5.size, hb5.block⟩; have HO5 := Lib.hid ho5; have HB5 := Lib.hid hb5'; obtain ⟨m5, mf⟩ := HAF.out w5 hb5'; have ma := HA1.out w5 hb5'; clear ho5 hb5 hb5')
      all_goals
        clear k5 k5d kf m5 mf ma a0
        obtain ⟨WQ, hWQ⟩ : ∃ WQ, WQ = w5.setCell ⟨gC, j, none⟩ (.slice a5 (cmp (Cs[j]'HCJ.out) q).length cp5) := ⟨_, rfl⟩
        have hOQ : WQ.ownsRow 0 71 1 (.slice (some ⟨gC, 0, none⟩) n capC) n (ds.set j (.slice a5 (cmp (Cs[j]'HCJ.out) q).length cp5)) := by rw [hWQ]; exact own1_set (own_go HO.out HB5.out) hlt _
        have hFQ5 : Fr (fun k => k = gC) w5 WQ := by rw [hWQ]; exact (Fr.refl _ w5).set _ rfl
        have hFQ : Fr (fun k => k = gC) wr WQ := (Fr.below (E := fun k => k = gC) HB5.out).trans hFQ5 (fun k hk => .inl hk)
        have hgF : ¬ Fx F w.heap.size gC := fun hh => hh.elim (H6.out gC rfl).2 (fun e => by
          have := (H5w.out.lt gC rfl).2
          omega)
        have HOQ := Lib.hid hOQ
        have HDQ : Hid ((ds.set j (.slice a5 (cmp (Cs[j]'HCJ.out) q).length cp5)).length = n) := by show _ = _; rw [List.length_set]; exact HDL.out
        have HVQ : Hid (∀ i (hi : i < Cs.length) (hj' : i < (ds.set j (.slice a5 (cmp (Cs[j]'HCJ.out) q).length cp5)).length), RdVF (Fx F w.heap.size) (ds.set j (.slice a5 (cmp (Cs[j]'HCJ.out) q).length cp5))[i] (if i < j + 1 then cmp Cs[i] q else Cs[i]) WQ) := fun i hi hj' => by
          by_cases hij : i = j
          · subst hij
            rw [if_pos (by omega)]
            simp only [List.getElem_set_self]
            have ho2 : OwV 89 wr.heap.size (.slice a5 (cmp (Cs[i]'HCJ.out) q).length cp5) (cmp (Cs[i]'HCJ.out) q) w5 := HO5.out
            exact (OwV.rdF (F := Fx F w.heap.size) ho2 (fun k hk _ => .inr (by omega))).fr hFQ5 (fun k hk e => hgF (by rw [← e]; exact hk))
          · rw [List.getElem_set_ne (fun e => hij e.symm)]
            have h1 := HV.out i hi (by rw [HDL.out]; have := HCn.out; omega)
            have e : (if i < j + 1 then cmp Cs[i] q else Cs[i]) = (if i < j then cmp Cs[i] q else Cs[i]) := by
              by_cases h : i < j
              · rw [if_pos h, if_pos (by omega)]
              · rw [if_neg h, if_neg (by omega)]
            rw [e]
            exact h1.fr hFQ (fun k hk e => hgF (by rw [← e]; exact hk))
        have HFQ : Hid (Fr (fun k => (Value.slice (some ⟨gC, 0, none⟩) n capC).ownBlock = some k) W1 WQ) := HF.out.trans (hFQ.mono (E' := fun k => (Value.slice (some ⟨gC, 0, none⟩) n capC).ownBlock = some k) (fun k e => by rw [e]; rfl)) (fun k hk => .inl hk)
        clear hOQ hFQ5 hFQ hgF
        rw [← hWQ]
        clear hWQ
        go_wp2
        go_roundw
        case rel => exact ⟨j + 1, _, by omega, by go_num, HDQ, HOQ, HVQ, HFQ⟩
        case measure => simp [intOf]; omega
    · have hjl : ¬ (j : Int) < (n : Int) := by omega
      go_wp2
      go_ret
      have hFw : Fr (fun k => k = r ∨ (Value.slice aC n capC).ownBlock = some k) w wr := (HF1.out.mono (E' := fun k => k = r ∨ (Value.slice aC n capC).ownBlock = some k) (fun k hk => .inl hk)).trans (HF.out.mono (E' := fun k => k = r ∨ (Value.slice aC n capC).ownBlock = some k) (fun k hk => .inr hk)) (fun k hk => .inl hk)
      have h6 := H6.out
      rw [HCn.out] at h6
      have h5w := H5w.out
      rw [HCn.out] at h5w
      have hFF : ∀ k, F k → ¬ (k = r ∨ (Value.slice aC n capC).ownBlock = some k) := fun k hk e => e.elim (fun e => HI.out.fr.2 (by rw [← e]; exact hk)) (fun e => (h6 k e).2 hk)
      refine ⟨rfl, ⟨⟨vA, vN, .slice aC n capC, ds, HSR.out, (H2.out.fr hFw hFF).up (fun k hk _ => .inl hk), ?_, ?_, ?_, ?_, ?_, ?_⟩, ?_, ?_⟩, hFw.mono (fun k hk => hk.elim (fun e => by rw [e]; exact HI.out.fr.1) (fun e => (h6 k e).1))⟩
      · exact row_fr H3.out hFw (fun g e hg => hg.elim (fun e2 => HNR.out (by rw [e, e2])) (fun e2 => rows_apart H3.out h5w (by decide) e e2))
      · exact fun g e => ⟨.inl (H4.out g e).1, fun hh => hh.elim (H4.out g e).2 (fun e2 => by have := (H3.out.lt g e).2; omega)⟩
      · rw [List.length_map, HCn.out]; exact HO.out
      · exact fun g e => ⟨.inl (h6 g e).1, fun hh => hh.elim (h6 g e).2 (fun e2 => by have := (h5w.lt g e).2; omega)⟩
      · rw [List.length_map, HCn.out]; exact HDL.out
      · intro i hi hj'
        have hi' : i < Cs.length := by rw [List.length_map] at hi; exact hi
        have h1 := HV.out i hi' hj'
        rw [if_pos (by have := HCn.out; omega)] at h1
        simpa using h1
      · exact ⟨.inl HI.out.fr.1, fun hh => hh.elim HI.out.fr.2 (fun e => by omega)⟩
      · exact fun k hk => hk.elim (fun h => .inl (HI.out.sub k h)) .inr
end Go.Proofs.Ytjceofkcahfhmaa.Mv
