/- The document's store: May; no other condition. -/
import Derived.Test.YtjceofkcahfhmaaMvDm
import Derived.Deep.DeepCutAuto
namespace Go.Proofs.Ytjceofkcahfhmaa.Mv
open Go.RowKit Go.Lib Go.Maps Go.Shelf Go.Sort
open Go.Proofs.Ytjceofkcahfhmaa.Cn
set_option linter.unusedSimpArgs false
set_option linter.unusedVariables false

def eqK (k : ByteArray) (o : ChT) : Bool := o.1.toList == k.toList
/-- may each change be made? -/
def goodD (L : List ItT) : List ChT → List ChT → Bool
  | _, [] => true
  | pre, c :: cs => !(pre.any (eqK c.1)) && (!(c.1.toList.isEmpty || (c.2.2 && !(fndV L c.1).2)) && goodD L (pre ++ [c]) cs)
def mayD (A : List (List ItT)) (kl vl : Int) (Cs : List (List Ver)) (l : List ChT) : Int :=
  if goodD (lastA A) [] l = false then 1 else if l.length = 0 then 1 else if kl < (nextL A l).length ∨ vl < (sumC Cs : Nat) + (l.length : Nat) then 7 else 0
theorem any_snoc {l : List ChT} {k : ByteArray} {j : Nat} (hj : j < l.length) : (l.take (j + 1)).any (eqK k) = ((l.take j).any (eqK k) || eqK k l[j]) := by
  rw [List.take_succ_eq_append_getElem hj, List.any_append]; simp
theorem any_hit2 {l : List ChT} {k : ByteArray} {j i : Nat} (hi : i < l.length) (hij : i < j) (h : eqK k l[i] = true) : (l.take j).any (eqK k) = true := by
  rw [List.any_eq_true]
  exact ⟨l[i], List.mem_take_iff_getElem.2 ⟨i, by omega, rfl⟩, h⟩
set_option maxRecDepth 100000 in
set_option maxHeartbeats 8000000 in
theorem MayR_c {F G : Nat → Prop} {r : Nat} {A : List (List ItT)} {kl vl fl : Int} {Ns : List Key} {Cs : List (List Ver)} {w : World} (h : IsR F G r A kl vl fl Ns Cs w) (hA : A.length ≤ 100000) (hAl : (lastA A).length ≤ 50000) (hC : Cs.length ≤ 1000) (hL : ∀ c ∈ Cs, c.length ≤ 1000) (ac : Option Addr) (cc : Nat) (l : List ChT) (hl : RdC (.slice ac l.length cc) l w) (hcc : l.length ≤ cc) (hm : l.length ≤ 1000) :
    Calls Try.prog 19 #[.pointer (some ⟨r, 0, none⟩), .slice ac l.length cc] w fun e w' => e = .returned (.int .i64 (mayD A kl vl Cs l)) ∧ Below w.heap.size w w' := by
  have HNX : Hid (∀ V, Below w.heap.size w V → Calls Try.prog 33 #[.pointer (some ⟨r, 0, none⟩), .slice ac l.length cc] V fun e w' => ∃ v, e = .returned v ∧ RdI (Fx F V.heap.size) v (nextL A l) w' ∧ Below V.heap.size V w') := fun V hV => next_c (h.go hV) hA hAl ac cc l (hl.go hV) hm
  have HCN : Hid (∀ V, Below w.heap.size w V → Calls Try.prog 13 #[.pointer (some ⟨r, 0, none⟩)] V fun e w' => e = .returned (.int .i64 (sumC Cs : Nat)) ∧ w' = V) := fun V hV => Count_c (h.go hV) (by omega) (fun c hc => by have := hL c hc; omega)
  have hsc : sumC Cs ≤ 1000 * 1000 := by
    have : ∀ (Cs : List (List Ver)), (∀ c ∈ Cs, c.length ≤ 1000) → sumC Cs ≤ 1000 * Cs.length := by
      intro Cs
      induction Cs with
      | nil => intro _; simp [sumC]
      | cons c Cs ih =>
        intro hh
        have h1 := ih (fun x hx => hh x (List.mem_cons_of_mem _ hx))
        have h2 := hh c (List.mem_cons_self ..)
        have e : sumC (c :: Cs) = c.length + sumC Cs := by simp [sumC]
        rw [e, List.length_cons]; omega
    have := this Cs hL
    omega
  have HH := Lib.hid h
  obtain ⟨⟨vA, vN, vC, cs, h1, ⟨g, cap, rfl, hc, h00, _, hg, hat⟩, _⟩, _⟩ := h
  have hrl : r < w.heap.size := (Array.getElem?_eq_some_iff.1 h1).1
  have hkA : A.length - 1 < A.length := by omega
  obtain ⟨vi, a0, hvi⟩ := hat (A.length - 1) hkA
  have hla : lastA A = A[A.length - 1] := by unfold lastA; rw [List.getD_eq_getElem?_getD, List.getElem?_eq_getElem hkA]; rfl
  rw [← hla] at hvi
  unfold mayD
  generalize lastA A = L at hvi hAl ⊢
  obtain ⟨n, hn⟩ : ∃ n, n = A.length := ⟨_, rfl⟩
  have hvi2 := hvi
  obtain ⟨ao, cap', hve, -⟩ := hvi
  rw [hve] at a0 hvi2
  rw [← hn] at h1 a0 h00 hA
  have HCL : Hid (∀ V, Below w.heap.size w V → V.cell? ⟨r, 0, none⟩ = some (.slice (some ⟨g, 0, none⟩) n cap) ∧ V.cell? ⟨r, 1, none⟩ = some (.int .i64 kl) ∧ V.cell? ⟨r, 2, none⟩ = some (.int .i64 vl) ∧ V.cell? ⟨g, n - 1, none⟩ = some (.slice ao L.length cap')) := fun V hV => by
    obtain ⟨c0, c1, c2, c3, c4, c5⟩ := cells6 ((hV.block r hrl).trans h1)
    exact ⟨c0, c1, c2, (hV.cell (p := ⟨g, n - 1, none⟩) hg).trans a0⟩
  have HFN : Hid (∀ (k : ByteArray) V, Below w.heap.size w V → Calls Try.prog 32 #[.slice ao L.length cap', .string k] V fun e w' => e = .returned (.tuple #[aggI (fndV L k).1, .bool (fndV L k).2]) ∧ Below V.heap.size V w') := fun k V hV => find_c F ao cap' L k V (hvi2.go hV) (by omega)
  have hn1 : (1 : Int) ≤ (n : Int) := by omega
  have hq : IntKind.i64.wrap ((n : Int) - 1) = (n : Int) - 1 := by rw [IntKind.wrap_i64]; omega
  have hqn : (n : Int) - 1 < (n : Int) := by omega
  have hq0 : (0 : Int) ≤ (n : Int) - 1 := by omega
  have HLL := Lib.hid hl
  obtain ⟨t, ht⟩ : ∃ t, t = l.length := ⟨_, rfl⟩
  have HT : Hid (l.length = t) := ht.symm
  rw [← ht] at HLL hm hcc HNX
  generalize nextL A l = NX at HNX ⊢
  generalize hsu : sumC Cs = su at HCN hsc ⊢
  have hqs : IntKind.i64.wrap ((su : Int) + (t : Int)) = (su : Int) + (t : Int) := by rw [IntKind.wrap_i64]; omega
  rw [← ht]
  obtain ⟨RR, hRR⟩ : ∃ RR : Int, RR = (if goodD L [] l = false then 1 else if t = 0 then 1 else if kl < (NX.length : Int) ∨ vl < (su : Nat) + (t : Nat) then 7 else 0) := ⟨_, rfl⟩
  rw [← hRR]
  have HRR := Lib.hid hRR
  clear hRR
  clear hvi2 hve hla hl ht hat h1 hAl a0 hn hkA hL hC hsu hg
  go_enter Try.func19, Try.ntmps19
  go_upto_region 2 with (fail)
  go_loopw [13] (fun iv wr => ∃ j : Nat, j ≤ t ∧ iv = .int .i64 (j : Int) ∧ Hid (goodD L [] l = goodD L (l.take j) (l.drop j)) ∧ Hid (Below w.heap.size w wr)) (fun iv _ => t - (intOf iv).toNat)
  case atStart => exact ⟨0, by omega, rfl, Lib.hid rfl, Lib.hid (Below.refl _ _)⟩
  case round =>
    obtain ⟨j, hj, rfl, HG, HB⟩ := hrel
    by_cases hlt : j < t
    · obtain ⟨wo, hwo⟩ : ∃ wo, wo = wr := ⟨_, rfl⟩
      subst hwo
      have hjL : j < l.length := by rw [HT.out]; exact hlt
      obtain ⟨g2, rfl, hg2, hat⟩ := rdc_at (HLL.out.go HB.out) (by omega)
      obtain ⟨a0, a1, a2⟩ := hat j hjL
      have hj0 : (0 : Int) ≤ (j : Int) := by omega
      have hjl : (j : Int) < (t : Int) := by omega
      have hjle : (j : Int) ≤ (t : Int) := by omega
      have hjc : (j : Int) ≤ (cc : Int) := by omega
      have HGD : Hid (goodD L (l.take j) (l.drop j) = (!((l.take j).any (eqK l[j].1)) && (!(l[j].1.toList.isEmpty || (l[j].2.2 && !(fndV L l[j].1).2)) && goodD L (l.take (j + 1)) (l.drop (j + 1))))) := by
        show _ = _
        rw [List.drop_eq_getElem_cons hjL, List.take_succ_eq_append_getElem hjL]; rfl
      obtain ⟨⟨x0, x1, x2⟩, hx⟩ : ∃ x : ChT, l[j] = x := ⟨_, rfl⟩
      rw [hx] at a0 a1 a2 HGD
      have HJL := Lib.hid hjL
      dsimp only at a0 a1 a2 HGD
      obtain ⟨W1, hW1, hk1, hb1⟩ := Cn.new3 wo (.string x0) (.string x1) (.bool x2) 81
      have HW1 := Lib.hid hW1
      have HK1 := Lib.hid hk1
      have HB1 := Lib.hid (HB.out.trans (hb1.mono HB.out.size))
      have hz1 : wo.heap.size < W1.heap.size := (Array.getElem?_eq_some_iff.1 hk1).1
      have HAT2 := Lib.hid (HLL.out.go HB1.out)
      clear hat hx hjL hW1 hk1 hb1
      go_upto_region 4 with (fail)
      rw [← HW1.out]
      clear a0 a1 a2
      go_upto_region 5 with (fail)
      go_loopw [22] (fun iv wr => ∃ i : Nat, i ≤ j ∧ iv = .int .i64 (i : Int) ∧ Hid ((l.take i).any (eqK x0) = false) ∧ Hid (Below W1.heap.size W1 wr)) (fun iv _ => j - (intOf iv).toNat)
      case atStart => exact ⟨0, by omega, rfl, Lib.hid (by simp), Lib.hid (Below.refl _ _)⟩
      case round =>
        obtain ⟨i, hi, rfl, HAN, HBS⟩ := hrel
        have HBSW : Hid (Below w.heap.size w wr) := HB1.out.trans (HBS.out.mono HB1.out.size)
        have HKS : Hid (∀ V, Below wr.heap.size wr V → V.heap[wo.heap.size]? = some (.cells #[.string x0, .string x1, .bool x2] 81 (0, 0))) := fun V hV => (hV.block _ (Nat.lt_of_lt_of_le hz1 HBS.out.size)).trans ((HBS.out.block _ hz1).trans HK1.out)
        by_cases hlt2 : i < j
        · have hiL : i < l.length := by have := HJL.out; omega
          obtain ⟨g3, e3, hg3, hat⟩ := rdc_at (HAT2.out.go HBS.out) (by omega)
          injection e3 with e3
          injection e3 with e3
          subst e3
          obtain ⟨b0, b1, b2⟩ := hat i hiL
          have hi0 : (0 : Int) ≤ (i : Int) := by omega
          have hil : (i : Int) < (j : Int) := by omega
          have HSN := Lib.hid (any_snoc (k := x0) hiL)
          have HHT := Lib.hid (any_hit2 (k := x0) (j := j) hiL hlt2)
          obtain ⟨⟨y0, y1, y2⟩, hy⟩ : ∃ y : ChT, l[i] = y := ⟨_, rfl⟩
          rw [hy] at b0 b1 b2 HSN HHT
          dsimp only at b0 b1 b2
          unfold eqK at HSN HHT
          dsimp only at HSN HHT
          obtain ⟨W2, hW2, hk2, hb2⟩ := Cn.new3 wr (.string y0) (.string y1) (.bool y2) 81
          have HW2 := Lib.hid hW2
          have HB2 := Lib.hid (HBS.out.trans (hb2.mono HBS.out.size))
          have HB2W := Lib.hid (btr HBSW.out hb2)
          obtain ⟨d0, d1, d2⟩ := Cn.cells3 hk2
          obtain ⟨f0, f1, f2⟩ := Cn.cells3 (HKS.out W2 hb2)
          clear hat hy hiL hW2 hk2 hb2
          cases hb : y0.toList == x0.toList with
          | true =>
            rw [hb] at HHT
            have HNG : Hid (goodD L [] l = false) := by
              show _ = _
              rw [HG.out, HGD.out]
              have := HHT.out rfl
              unfold eqK
              rw [this]; rfl
            go_upto_region 7 with (fail)
            rw [← HW2.out]
            go_wp2
            go_ret
            exact ⟨by rw [HRR.out, HNG.out]; rfl, HB2W.out⟩
          | false =>
            rw [hb] at HSN
            have HA2 : Hid ((l.take (i + 1)).any (eqK x0) = false) := by
              show _ = _
              have h1 := HSN.out
              have h2 := HAN.out
              unfold eqK at h2 ⊢
              rw [h1, h2]; rfl
            go_upto_region 7 with (fail)
            rw [← HW2.out]
            go_wp2
            go_roundw
            case rel => exact ⟨i + 1, by omega, by go_num, HA2, HB2⟩
            case measure => simp [intOf]; omega
        · have hil : ¬ (i : Int) < (j : Int) := by omega
          have hij : i = j := by omega
          rw [hij] at HAN
          rw [HAN.out] at HGD
          clear hij hlt2
          have HFX := Lib.hid (HFN.out x0)
          obtain ⟨⟨y0, y1, y2⟩, hy⟩ : ∃ y, (fndV L x0).1 = y := ⟨_, rfl⟩
          rw [hy] at HFX
          unfold aggI at HFX
          dsimp only at HFX
          generalize (fndV L x0).2 = bh at HFX HGD
          obtain ⟨WZ1, hWZ1, hkZ1, hbZ1⟩ := Cn.new3 wr (.string ⟨#[]⟩) (.string ⟨#[]⟩) (.int .i64 0) 66
          have hzZ : wr.heap.size < WZ1.heap.size := (Array.getElem?_eq_some_iff.1 hkZ1).1
          have HSK : Hid (∀ V : World, Below wr.heap.size wr V → V.cell? ⟨r, 0, none⟩ = some (.slice (some ⟨g, 0, none⟩) n cap) ∧ V.cell? ⟨g, n - 1, none⟩ = some (.slice ao L.length cap') ∧ V.cell? ⟨wo.heap.size, 0, none⟩ = some (.string x0)) := fun V hV => by
            obtain ⟨e1, _, _, e4⟩ := HCL.out V (btr HBSW.out hV)
            exact ⟨e1, e4, (Cn.cells3 (HKS.out V hV)).1⟩
          obtain ⟨s0, s1, s2⟩ := HSK.out wr (Below.refl _ _)
          have HKA := Lib.hid (HSK.out wr.drew (bdr wr))
          have HKB := Lib.hid (HSK.out WZ1.drew (btr hbZ1 (bdr WZ1)))
          have HFA := Lib.hid (HFX.out wr.drew (btr HBSW.out (bdr wr)))
          have HFB := Lib.hid (HFX.out WZ1.drew (btr (btr HBSW.out hbZ1) (bdr WZ1)))
          rw [hWZ1] at HKB
          have HK2 := Lib.hid hkZ1
          have HBZ1 := Lib.hid hbZ1
          have HWZ := Lib.hid hWZ1
          clear hWZ1 hkZ1 hbZ1 hy
          go_upto_region 10 with (fail)
          go_region_held3 (fun V => V.cell? ⟨r, 0, none⟩ = some (.slice (some ⟨g, 0, none⟩) n cap) ∧ V.cell? ⟨g, n - 1, none⟩ = some (.slice ao L.length cap') ∧ V.cell? ⟨wo.heap.size, 0, none⟩ = some (.string x0))
            (first | (with_reducible exact HKA.out) | (with_reducible exact HKB.out) | (with_reducible exact HK3.out) | (with_reducible exact HK3a.out) | (with_reducible exact HK3r.out) | (with_reducible exact HK3s.out) | (with_reducible exact HK4.out) | (with_reducible exact HK4s.out))
            (first
              | (go_at_call 32; (with_reducible refine HFA.out.mono ?_); rintro e w3 ⟨rfl, hb3⟩; have hb3' : Below wr.heap.size wr w3 := ⟨hb3.os, hb3.tape, hb3.output, hb3.size, hb3.block⟩; have HB3 := Lib.hid hb3'; have hs3 := hb3'.size; have HK3 := Lib.hid (HSK.out w3 hb3'); have HK3a := Lib.hid (HSK.out (w3.alloc (.cells #[.string ⟨#[]⟩, .string ⟨#[]⟩, .int .i64 0] 66)) (hb3'.alloc hb3'.size _)); have HK3r := Lib.hid (HSK.out (w3.alloc (.cells #[.string y0, .string y1, .int .i64 y2] 66)) (hb3'.alloc hb3'.size _)); have HK3s := Lib.hid (HSK.out _ ((hb3'.alloc hb3'.size (.cells #[.string ⟨#[]⟩, .string ⟨#[]⟩, .int .i64 0] 66)).trans (bel_set3 (B := wr.heap.size) (r := w3.heap.size) (w3.alloc (.cells #[.string ⟨#[]⟩, .string ⟨#[]⟩, .int .i64 0] 66)) hb3'.size (.string y0) (.string y1) (.int .i64 y2)))); clear hb3 hb3')
              | (go_at_call 32; rw [← HWZ.out]; (with_reducible refine HFB.out.mono ?_); rintro e w4 ⟨rfl, hb4⟩; have hb4' : Below WZ1.heap.size WZ1 w4 := ⟨hb4.os, hb4.tape, hb4.output, hb4.size, hb4.block⟩; have hb04 : Below wr.heap.size wr w4 := btr HBZ1.out hb4'; have HN4 : Hid (w4.heap[wr.heap.size]? = some (.cells #[.string ⟨#[]⟩, .string ⟨#[]⟩, .int .i64 0] 66 (0, 0))) := (hb4'.block _ hzZ).trans HK2.out; have HB4 := Lib.hid hb04; have n0 := cell_of_row _ _ 0 _ _ _ HN4.out; have n1 := cell_of_row _ _ 1 _ _ _ HN4.out; have n2 := cell_of_row _ _ 2 _ _ _ HN4.out; have f0 := frz HN4.out 0; have f1 := frz HN4.out 1; have f2 := frz HN4.out 2; have HK4 := Lib.hid (HSK.out w4 hb04); have HK4s := Lib.hid (HSK.out _ (hb04.trans (bel_set3 (B := wr.heap.size) (r := wr.heap.size) w4 (Nat.le_refl _) (.string y0) (.string y1) (.int .i64 y2)))); clear hb4 hb4' hb04))
          all_goals
            have HFIN : Hid (∀ WZ, Below wr.heap.size wr WZ → Below w.heap.size w WZ ∧ WZ.heap[wo.heap.size]? = some (.cells #[.string x0, .string x1, .bool x2] 81 (0, 0))) := fun WZ hWZ => ⟨btr HBSW.out hWZ, HKS.out WZ hWZ⟩
            first
              | (obtain ⟨WQ, hWQ⟩ : ∃ WQ, WQ = w3.alloc (.cells #[.string y0, .string y1, .int .i64 y2] 66) := ⟨_, rfl⟩
                 have HQ := Lib.hid (HFIN.out WQ (by rw [hWQ]; exact HB3.out.alloc HB3.out.size _))
                 rw [← hWQ]
                 clear hWQ)
              | (obtain ⟨WQ, hWQ⟩ : ∃ WQ, WQ = ((w4.setCell ⟨wr.heap.size, 0, none⟩ (.string y0)).setCell ⟨wr.heap.size, 1, none⟩ (.string y1)).setCell ⟨wr.heap.size, 2, none⟩ (.int .i64 y2) := ⟨_, rfl⟩
                 have HQ := Lib.hid (HFIN.out WQ (by rw [hWQ]; exact HB4.out.trans (bel_set3 (B := wr.heap.size) (r := wr.heap.size) w4 (Nat.le_refl _) (.string y0) (.string y1) (.int .i64 y2))))
                 rw [← hWQ]
                 clear hWQ n0 n1 n2 f0 f1 f2)
            clear s0 s1 s2
            obtain ⟨d0, d1, d2⟩ := Cn.cells3 HQ.out.2
            cases hem : x0.toList.isEmpty with
            | true =>
              rw [hem] at HGD
              have HNG : Hid (goodD L [] l = false) := by show _ = _; rw [HG.out, HGD.out]; rfl
              go_wp2
              go_ret
              exact ⟨by rw [HRR.out, HNG.out]; rfl, HQ.out.1⟩
            | false =>
              rw [hem] at HGD
              cases x2 with
              | false =>
                have HNX2 : Hid (goodD L [] l = goodD L (l.take (j + 1)) (l.drop (j + 1))) := by show _ = _; rw [HG.out, HGD.out]; rfl
                go_wp2
                go_roundw
                case rel => exact ⟨j + 1, by omega, by go_num, HNX2, Lib.hid HQ.out.1⟩
                case measure => simp [intOf]; omega
              | true =>
                cases bh with
                | true =>
                  have HNX2 : Hid (goodD L [] l = goodD L (l.take (j + 1)) (l.drop (j + 1))) := by show _ = _; rw [HG.out, HGD.out]; rfl
                  go_wp2
                  go_roundw
                  case rel => exact ⟨j + 1, by omega, by go_num, HNX2, Lib.hid HQ.out.1⟩
                  case measure => simp [intOf]; omega
                | false =>
                  have HNG : Hid (goodD L [] l = false) := by show _ = _; rw [HG.out, HGD.out]; rfl
                  go_wp2
                  go_ret
                  exact ⟨by rw [HRR.out, HNG.out]; rfl, HQ.out.1⟩
    · have hjl : ¬ (j : Int) < (t : Int) := by omega
      have hd0 : l.drop j = [] := List.drop_of_length_le (by rw [HT.out]; omega)
      have HGT : Hid (goodD L [] l = true) := by show _ = _; rw [HG.out, hd0]; rfl
      clear hd0
      by_cases h0 : t = 0
      · have h0' : (t : Int) = 0 := by omega
        have h0b : ((t : Int) == 0) = true := by rw [h0']; rfl
        have H0 := Lib.hid h0
        clear h0 h0'
        go_wp2
        go_ret
        exact ⟨by rw [HRR.out, HGT.out, if_neg (by decide), if_pos H0.out]; rfl, HB.out⟩
      · have h0b : ((t : Int) == 0) = false := by simp; omega
        have HNZ := Lib.hid h0
        clear h0
        obtain ⟨_, k1, k2, _⟩ := HCL.out wr HB.out
        have HSK : Hid (∀ V : World, Below wr.heap.size wr V → V.cell? ⟨r, 1, none⟩ = some (.int .i64 kl) ∧ V.cell? ⟨r, 2, none⟩ = some (.int .i64 vl)) := fun V hV => by
          obtain ⟨_, e2, e3, _⟩ := HCL.out V (btr HB.out hV)
          exact ⟨e2, e3⟩
        have HKA := Lib.hid (HSK.out wr.drew (bdr wr))
        have HNA := Lib.hid (HNX.out wr.drew (btr HB.out (bdr wr)))
        clear HKA HNA k1 k2
        by_cases hk : kl < (NX.length : Int)
        · have hk' : decide (kl < (NX.length : Int)) = true := decide_eq_true hk
          have HR7 : Hid ((if kl < (NX.length : Int) ∨ vl < (su : Nat) + (t : Nat) then (7 : Int) else 0) = 7) := if_pos (.inl hk)
          clear hk
          go_upto_region 16 with (fail)
          have hS0 : (fun V : World => V.cell? ⟨r, 1, none⟩ = some (.int .i64 kl) ∧ V.cell? ⟨r, 2, none⟩ = some (.int .i64 vl)) wr.drew := HSK.out wr.drew (bdr wr)
          obtain ⟨V9, hV9⟩ : ∃ V9, V9 = wr.drew := ⟨_, rfl⟩
          have hS9 : (fun V : World => V.cell? ⟨r, 1, none⟩ = some (.int .i64 kl) ∧ V.cell? ⟨r, 2, none⟩ = some (.int .i64 vl)) V9 := by rw [hV9]; exact hS0
          have HB9 : Hid (Below wr.heap.size wr V9) := by rw [hV9]; exact Lib.hid (bdr wr)
          refine wp_region_held_drew (S := (fun V : World => V.cell? ⟨r, 1, none⟩ = some (.int .i64 kl) ∧ V.cell? ⟨r, 2, none⟩ = some (.int .i64 vl))) (by kernel_rfl) hS0 (fun hHeld => ?_)
          rw [← hV9] at hHeld ⊢
          clear hV9 hS0 hHeld
          refine wpAnyH_take (i := 0) (oi := ?o0g1) (v := ?v0g1) ?e0g1 ?a0g1 ?b0g1 ?c0g1 ?q0g1 (Or.inl ⟨?w0g1, ?h0g1⟩) ?s0g1 ?r0g1
          case e0g1 => (simp only [List.getElem?_toArray, List.getElem?_cons_zero, List.getElem?_cons_succ]; rfl)
          case a0g1 => kernel_rfl
          case b0g1 => kernel_rfl
          case c0g1 => kernel_rfl
          case q0g1 => exact fun _ _ _ h => h
          case w0g1 => rfl
          case s0g1 => assumption
          case h0g1 => (intro W hSw; obtain ⟨a1, a2⟩ := hSw; go_simp; try with_reducible rfl)
          try simp only [Act.put, List.setIfInBounds_toArray, List.set_cons_zero, List.set_cons_succ]
          refine wpAnyH_take (i := 1) (oi := ?o1g1) (v := ?v1g1) ?e1g1 ?a1g1 ?b1g1 ?c1g1 ?q1g1 (Or.inl ⟨?w1g1, ?h1g1⟩) ?s1g1 ?r1g1
          case e1g1 => (simp only [List.getElem?_toArray, List.getElem?_cons_zero, List.getElem?_cons_succ]; rfl)
          case a1g1 => kernel_rfl
          case b1g1 => kernel_rfl
          case c1g1 => kernel_rfl
          case q1g1 => exact fun _ _ _ h => h
          case w1g1 => rfl
          case s1g1 => assumption
          case h1g1 => (intro W hSw; obtain ⟨a1, a2⟩ := hSw; go_simp; try with_reducible rfl)
          try simp only [Act.put, List.setIfInBounds_toArray, List.set_cons_zero, List.set_cons_succ]
          refine wpAnyH_take (i := 4) (oi := ?o4g1) (v := ?v4g1) ?e4g1 ?a4g1 ?b4g1 ?c4g1 ?q4g1 (Or.inl ⟨?w4g1, ?h4g1⟩) ?s4g1 ?r4g1
          case e4g1 => (simp only [List.getElem?_toArray, List.getElem?_cons_zero, List.getElem?_cons_succ]; rfl)
          case a4g1 => kernel_rfl
          case b4g1 => kernel_rfl
          case c4g1 => kernel_rfl
          case q4g1 => exact fun _ _ _ h => h
          case w4g1 => rfl
          case s4g1 => assumption
          case h4g1 => (intro W hSw; obtain ⟨a1, a2⟩ := hSw; go_simp; try with_reducible rfl)
          try simp only [Act.put, List.setIfInBounds_toArray, List.set_cons_zero, List.set_cons_succ]
          refine wpAnyH_take (i := 5) (oi := ?o5g1) (v := ?v5g1) ?e5g1 ?a5g1 ?b5g1 ?c5g1 ?q5g1 (Or.inl ⟨?w5g1, ?h5g1⟩) ?s5g1 ?r5g1
          case e5g1 => (simp only [List.getElem?_toArray, List.getElem?_cons_zero, List.getElem?_cons_succ]; rfl)
          case a5g1 => kernel_rfl
          case b5g1 => kernel_rfl
          case c5g1 => kernel_rfl
          case q5g1 => exact fun _ _ _ h => h
          case w5g1 => rfl
          case s5g1 => assumption
          case h5g1 => (intro W hSw; obtain ⟨a1, a2⟩ := hSw; go_simp; try with_reducible rfl)
          try simp only [Act.put, List.setIfInBounds_toArray, List.set_cons_zero, List.set_cons_succ]
          refine wpAnyH_take (i := 6) (oi := ?o6g1) (v := ?v6g1) ?e6g1 ?a6g1 ?b6g1 ?c6g1 ?q6g1 (Or.inl ⟨?w6g1, ?h6g1⟩) ?s6g1 ?r6g1
          case e6g1 => (simp only [List.getElem?_toArray, List.getElem?_cons_zero, List.getElem?_cons_succ]; rfl)
          case a6g1 => kernel_rfl
          case b6g1 => kernel_rfl
          case c6g1 => kernel_rfl
          case q6g1 => exact fun _ _ _ h => h
          case w6g1 => rfl
          case s6g1 => assumption
          case h6g1 => (intro W hSw; obtain ⟨a1, a2⟩ := hSw; go_simp; try with_reducible rfl)
          try simp only [Act.put, List.setIfInBounds_toArray, List.set_cons_zero, List.set_cons_succ]
          refine wpAnyH_take (i := 7) (oi := ?o7g1) (v := ?v7g1) ?e7g1 ?a7g1 ?b7g1 ?c7g1 ?q7g1 (Or.inl ⟨?w7g1, ?h7g1⟩) ?s7g1 ?r7g1
          case e7g1 => (simp only [List.getElem?_toArray, List.getElem?_cons_zero, List.getElem?_cons_succ]; rfl)
          case a7g1 => kernel_rfl
          case b7g1 => kernel_rfl
          case c7g1 => kernel_rfl
          case q7g1 => exact fun _ _ _ h => h
          case w7g1 => rfl
          case s7g1 => assumption
          case h7g1 => (intro W hSw; obtain ⟨a1, a2⟩ := hSw; go_simp; try with_reducible rfl)
          try simp only [Act.put, List.setIfInBounds_toArray, List.set_cons_zero, List.set_cons_succ]
          refine wpAnyH_ready (rs := [2]) (by kernel_rfl) (by simp) (AllReadyH.cons (o := ?o2z8g1) ?e2z8g1 (fun K hK => ?k2z8g1) AllReadyH.nil)
          case e2z8g1 => (simp only [List.getElem?_toArray, List.getElem?_cons_zero, List.getElem?_cons_succ]; rfl)
          go_simp
          (with_reducible refine (HNX.out V9 (btr HB.out HB9.out)).mono ?_)
          rintro e w3 ⟨v3, rfl, hr3, hb3⟩
          obtain ⟨a3, c3, rfl, -⟩ := hr3
          have HBR := Lib.hid (btr HB9.out hb3)
          have HBW3 := Lib.hid (btr HB.out HBR.out)
          have hS1 : (fun V : World => V.cell? ⟨r, 1, none⟩ = some (.int .i64 kl) ∧ V.cell? ⟨r, 2, none⟩ = some (.int .i64 vl)) w3 := HSK.out w3 HBR.out
          clear hb3
          go_wp2_with fail
          refine hK.out _ _ hS1 (fun _ => ?_)
          clear hK K
          try simp only [Act.put, List.setIfInBounds_toArray, List.set_cons_zero, List.set_cons_succ]
          refine wpAnyH_take (i := 3) (oi := ?o3g1) (v := ?v3g1) ?e3g1 ?a3g1 ?b3g1 ?c3g1 ?q3g1 (Or.inl ⟨?w3g1, ?h3g1⟩) ?s3g1 ?r3g1
          case e3g1 => (simp only [List.getElem?_toArray, List.getElem?_cons_zero, List.getElem?_cons_succ]; rfl)
          case a3g1 => kernel_rfl
          case b3g1 => kernel_rfl
          case c3g1 => kernel_rfl
          case q3g1 => exact fun _ _ _ h => h
          case w3g1 => rfl
          case s3g1 => assumption
          case h3g1 => (intro W hSw; obtain ⟨a1, a2⟩ := hSw; go_simp; try with_reducible rfl)
          try simp only [Act.put, List.setIfInBounds_toArray, List.set_cons_zero, List.set_cons_succ]
          refine wpAnyH_take (i := 8) (oi := ?o8g1) (v := ?v8g1) ?e8g1 ?a8g1 ?b8g1 ?c8g1 ?q8g1 (Or.inl ⟨?w8g1, ?h8g1⟩) ?s8g1 ?r8g1
          case e8g1 => (simp only [List.getElem?_toArray, List.getElem?_cons_zero, List.getElem?_cons_succ]; rfl)
          case a8g1 => kernel_rfl
          case b8g1 => kernel_rfl
          case c8g1 => kernel_rfl
          case q8g1 => exact fun _ _ _ h => h
          case w8g1 => rfl
          case s8g1 => assumption
          case h8g1 => (intro W hSw; obtain ⟨a1, a2⟩ := hSw; go_simp; try with_reducible rfl)
          try simp only [Act.put, List.setIfInBounds_toArray, List.set_cons_zero, List.set_cons_succ]
          try simp only [hk']
          refine wpAnyH_take (i := 9) (oi := ?o9g1) (v := ?v9g1) ?e9g1 ?a9g1 ?b9g1 ?c9g1 ?q9g1 (Or.inl ⟨?w9g1, ?h9g1⟩) ?s9g1 ?r9g1
          case e9g1 => (simp only [List.getElem?_toArray, List.getElem?_cons_zero, List.getElem?_cons_succ]; rfl)
          case a9g1 => kernel_rfl
          case b9g1 => kernel_rfl
          case c9g1 => kernel_rfl
          case q9g1 => exact fun _ _ _ h => h
          case w9g1 => rfl
          case s9g1 => assumption
          case h9g1 => (intro W hSw; obtain ⟨a1, a2⟩ := hSw; go_simp; try with_reducible rfl)
          try simp only [Act.put, List.setIfInBounds_toArray, List.set_cons_zero, List.set_cons_succ]
          refine wpAnyH_take (i := 10) (oi := ?o10g1) (v := undef) ?e10g1 ?a10g1 ?b10g1 ?c10g1 ?q10g1 (Or.inr ⟨?w10g1, ?h10g1⟩) ?s10g1 ?r10g1
          case e10g1 => (simp only [List.getElem?_toArray, List.getElem?_cons_zero, List.getElem?_cons_succ]; rfl)
          case a10g1 => kernel_rfl
          case b10g1 => kernel_rfl
          case c10g1 => kernel_rfl
          case q10g1 => exact fun _ _ _ h => h
          case w10g1 => rfl
          case s10g1 => assumption
          case h10g1 => rfl
          try simp only [Act.put, List.setIfInBounds_toArray, List.set_cons_zero, List.set_cons_succ]
          refine wpAnyH_take (i := 11) (oi := ?o11g1) (v := undef) ?e11g1 ?a11g1 ?b11g1 ?c11g1 ?q11g1 (Or.inr ⟨?w11g1, ?h11g1⟩) ?s11g1 ?r11g1
          case e11g1 => (simp only [List.getElem?_toArray, List.getElem?_cons_zero, List.getElem?_cons_succ]; rfl)
          case a11g1 => kernel_rfl
          case b11g1 => kernel_rfl
          case c11g1 => kernel_rfl
          case q11g1 => exact fun _ _ _ h => h
          case w11g1 => rfl
          case s11g1 => assumption
          case h11g1 => rfl
          try simp only [Act.put, List.setIfInBounds_toArray, List.set_cons_zero, List.set_cons_succ]
          refine wpAnyH_take (i := 12) (oi := ?o12g1) (v := undef) ?e12g1 ?a12g1 ?b12g1 ?c12g1 ?q12g1 (Or.inr ⟨?w12g1, ?h12g1⟩) ?s12g1 ?r12g1
          case e12g1 => (simp only [List.getElem?_toArray, List.getElem?_cons_zero, List.getElem?_cons_succ]; rfl)
          case a12g1 => kernel_rfl
          case b12g1 => kernel_rfl
          case c12g1 => kernel_rfl
          case q12g1 => exact fun _ _ _ h => h
          case w12g1 => rfl
          case s12g1 => assumption
          case h12g1 => rfl
          try simp only [Act.put, List.setIfInBounds_toArray, List.set_cons_zero, List.set_cons_succ]
          refine wpAnyH_take (i := 13) (oi := ?o13g1) (v := undef) ?e13g1 ?a13g1 ?b13g1 ?c13g1 ?q13g1 (Or.inr ⟨?w13g1, ?h13g1⟩) ?s13g1 ?r13g1
          case e13g1 => (simp only [List.getElem?_toArray, List.getElem?_cons_zero, List.getElem?_cons_succ]; rfl)
          case a13g1 => kernel_rfl
          case b13g1 => kernel_rfl
          case c13g1 => kernel_rfl
          case q13g1 => exact fun _ _ _ h => h
          case w13g1 => rfl
          case s13g1 => assumption
          case h13g1 => rfl
          try simp only [Act.put, List.setIfInBounds_toArray, List.set_cons_zero, List.set_cons_succ]
          refine wpAnyH_take (i := 14) (oi := ?o14g1) (v := undef) ?e14g1 ?a14g1 ?b14g1 ?c14g1 ?q14g1 (Or.inr ⟨?w14g1, ?h14g1⟩) ?s14g1 ?r14g1
          case e14g1 => (simp only [List.getElem?_toArray, List.getElem?_cons_zero, List.getElem?_cons_succ]; rfl)
          case a14g1 => kernel_rfl
          case b14g1 => kernel_rfl
          case c14g1 => kernel_rfl
          case q14g1 => exact fun _ _ _ h => h
          case w14g1 => rfl
          case s14g1 => assumption
          case h14g1 => rfl
          try simp only [Act.put, List.setIfInBounds_toArray, List.set_cons_zero, List.set_cons_succ]
          refine wpAnyH_take (i := 15) (oi := ?o15g1) (v := undef) ?e15g1 ?a15g1 ?b15g1 ?c15g1 ?q15g1 (Or.inr ⟨?w15g1, ?h15g1⟩) ?s15g1 ?r15g1
          case e15g1 => (simp only [List.getElem?_toArray, List.getElem?_cons_zero, List.getElem?_cons_succ]; rfl)
          case a15g1 => kernel_rfl
          case b15g1 => kernel_rfl
          case c15g1 => kernel_rfl
          case q15g1 => exact fun _ _ _ h => h
          case w15g1 => rfl
          case s15g1 => assumption
          case h15g1 => rfl
          try simp only [Act.put, List.setIfInBounds_toArray, List.set_cons_zero, List.set_cons_succ]
          refine wpAnyH_take (i := 16) (oi := ?o16g1) (v := undef) ?e16g1 ?a16g1 ?b16g1 ?c16g1 ?q16g1 (Or.inr ⟨?w16g1, ?h16g1⟩) ?s16g1 ?r16g1
          case e16g1 => (simp only [List.getElem?_toArray, List.getElem?_cons_zero, List.getElem?_cons_succ]; rfl)
          case a16g1 => kernel_rfl
          case b16g1 => kernel_rfl
          case c16g1 => kernel_rfl
          case q16g1 => exact fun _ _ _ h => h
          case w16g1 => rfl
          case s16g1 => assumption
          case h16g1 => rfl
          try simp only [Act.put, List.setIfInBounds_toArray, List.set_cons_zero, List.set_cons_succ]
          refine wpAnyH_take (i := 17) (oi := ?o17g1) (v := undef) ?e17g1 ?a17g1 ?b17g1 ?c17g1 ?q17g1 (Or.inr ⟨?w17g1, ?h17g1⟩) ?s17g1 ?r17g1
          case e17g1 => (simp only [List.getElem?_toArray, List.getElem?_cons_zero, List.getElem?_cons_succ]; rfl)
          case a17g1 => kernel_rfl
          case b17g1 => kernel_rfl
          case c17g1 => kernel_rfl
          case q17g1 => exact fun _ _ _ h => h
          case w17g1 => rfl
          case s17g1 => assumption
          case h17g1 => rfl
          try simp only [Act.put, List.setIfInBounds_toArray, List.set_cons_zero, List.set_cons_succ]
          refine wpAnyH_take (i := 18) (oi := ?o18g1) (v := undef) ?e18g1 ?a18g1 ?b18g1 ?c18g1 ?q18g1 (Or.inr ⟨?w18g1, ?h18g1⟩) ?s18g1 ?r18g1
          case e18g1 => (simp only [List.getElem?_toArray, List.getElem?_cons_zero, List.getElem?_cons_succ]; rfl)
          case a18g1 => kernel_rfl
          case b18g1 => kernel_rfl
          case c18g1 => kernel_rfl
          case q18g1 => exact fun _ _ _ h => h
          case w18g1 => rfl
          case s18g1 => assumption
          case h18g1 => rfl
          try simp only [Act.put, List.setIfInBounds_toArray, List.set_cons_zero, List.set_cons_succ]
          refine wpAnyH_take (i := 19) (oi := ?o19g1) (v := undef) ?e19g1 ?a19g1 ?b19g1 ?c19g1 ?q19g1 (Or.inr ⟨?w19g1, ?h19g1⟩) ?s19g1 ?r19g1
          case e19g1 => (simp only [List.getElem?_toArray, List.getElem?_cons_zero, List.getElem?_cons_succ]; rfl)
          case a19g1 => kernel_rfl
          case b19g1 => kernel_rfl
          case c19g1 => kernel_rfl
          case q19g1 => exact fun _ _ _ h => h
          case w19g1 => rfl
          case s19g1 => assumption
          case h19g1 => rfl
          try simp only [Act.put, List.setIfInBounds_toArray, List.set_cons_zero, List.set_cons_succ]
          refine wpAnyH_take (i := 20) (oi := ?o20g1) (v := ?v20g1) ?e20g1 ?a20g1 ?b20g1 ?c20g1 ?q20g1 (Or.inl ⟨?w20g1, ?h20g1⟩) ?s20g1 ?r20g1
          case e20g1 => (simp only [List.getElem?_toArray, List.getElem?_cons_zero, List.getElem?_cons_succ]; rfl)
          case a20g1 => kernel_rfl
          case b20g1 => kernel_rfl
          case c20g1 => kernel_rfl
          case q20g1 => exact fun _ _ _ h => h
          case w20g1 => rfl
          case s20g1 => assumption
          case h20g1 => (intro W hSw; obtain ⟨a1, a2⟩ := hSw; go_simp; try with_reducible rfl)
          try simp only [Act.put, List.setIfInBounds_toArray, List.set_cons_zero, List.set_cons_succ]
          refine wpAnyH_done (by kernel_rfl) ?_ _
          go_wp2
          go_ret
          exact ⟨by rw [HRR.out, HGT.out, if_neg (by decide), if_neg HNZ.out, HR7.out]; rfl, HBW3.out⟩
        · have hk' : decide (kl < (NX.length : Int)) = false := decide_eq_false hk
          by_cases hv : vl < ((su : Nat) : Int) + (t : Int)
          · have hv' : decide (vl < ((su : Nat) : Int) + (t : Int)) = true := decide_eq_true hv
            have HR7 : Hid ((if kl < (NX.length : Int) ∨ vl < (su : Nat) + (t : Nat) then (7 : Int) else 0) = 7) := if_pos (.inr hv)
            clear hk hv
            go_upto_region 16 with (fail)
            have hS0 : (fun V : World => V.cell? ⟨r, 1, none⟩ = some (.int .i64 kl) ∧ V.cell? ⟨r, 2, none⟩ = some (.int .i64 vl)) wr.drew := HSK.out wr.drew (bdr wr)
            obtain ⟨V9, hV9⟩ : ∃ V9, V9 = wr.drew := ⟨_, rfl⟩
            have hS9 : (fun V : World => V.cell? ⟨r, 1, none⟩ = some (.int .i64 kl) ∧ V.cell? ⟨r, 2, none⟩ = some (.int .i64 vl)) V9 := by rw [hV9]; exact hS0
            have HB9 : Hid (Below wr.heap.size wr V9) := by rw [hV9]; exact Lib.hid (bdr wr)
            refine wp_region_held_drew (S := (fun V : World => V.cell? ⟨r, 1, none⟩ = some (.int .i64 kl) ∧ V.cell? ⟨r, 2, none⟩ = some (.int .i64 vl))) (by kernel_rfl) hS0 (fun hHeld => ?_)
            rw [← hV9] at hHeld ⊢
            clear hV9 hS0 hHeld
            refine wpAnyH_take (i := 0) (oi := ?o0g2) (v := ?v0g2) ?e0g2 ?a0g2 ?b0g2 ?c0g2 ?q0g2 (Or.inl ⟨?w0g2, ?h0g2⟩) ?s0g2 ?r0g2
            case e0g2 => (simp only [List.getElem?_toArray, List.getElem?_cons_zero, List.getElem?_cons_succ]; rfl)
            case a0g2 => kernel_rfl
            case b0g2 => kernel_rfl
            case c0g2 => kernel_rfl
            case q0g2 => exact fun _ _ _ h => h
            case w0g2 => rfl
            case s0g2 => assumption
            case h0g2 => (intro W hSw; obtain ⟨a1, a2⟩ := hSw; go_simp; try with_reducible rfl)
            try simp only [Act.put, List.setIfInBounds_toArray, List.set_cons_zero, List.set_cons_succ]
            refine wpAnyH_take (i := 1) (oi := ?o1g2) (v := ?v1g2) ?e1g2 ?a1g2 ?b1g2 ?c1g2 ?q1g2 (Or.inl ⟨?w1g2, ?h1g2⟩) ?s1g2 ?r1g2
            case e1g2 => (simp only [List.getElem?_toArray, List.getElem?_cons_zero, List.getElem?_cons_succ]; rfl)
            case a1g2 => kernel_rfl
            case b1g2 => kernel_rfl
            case c1g2 => kernel_rfl
            case q1g2 => exact fun _ _ _ h => h
            case w1g2 => rfl
            case s1g2 => assumption
            case h1g2 => (intro W hSw; obtain ⟨a1, a2⟩ := hSw; go_simp; try with_reducible rfl)
            try simp only [Act.put, List.setIfInBounds_toArray, List.set_cons_zero, List.set_cons_succ]
            refine wpAnyH_take (i := 4) (oi := ?o4g2) (v := ?v4g2) ?e4g2 ?a4g2 ?b4g2 ?c4g2 ?q4g2 (Or.inl ⟨?w4g2, ?h4g2⟩) ?s4g2 ?r4g2
            case e4g2 => (simp only [List.getElem?_toArray, List.getElem?_cons_zero, List.getElem?_cons_succ]; rfl)
            case a4g2 => kernel_rfl
            case b4g2 => kernel_rfl
            case c4g2 => kernel_rfl
            case q4g2 => exact fun _ _ _ h => h
            case w4g2 => rfl
            case s4g2 => assumption
            case h4g2 => (intro W hSw; obtain ⟨a1, a2⟩ := hSw; go_simp; try with_reducible rfl)
            try simp only [Act.put, List.setIfInBounds_toArray, List.set_cons_zero, List.set_cons_succ]
            refine wpAnyH_take (i := 5) (oi := ?o5g2) (v := ?v5g2) ?e5g2 ?a5g2 ?b5g2 ?c5g2 ?q5g2 (Or.inl ⟨?w5g2, ?h5g2⟩) ?s5g2 ?r5g2
            case e5g2 => (simp only [List.getElem?_toArray, List.getElem?_cons_zero, List.getElem?_cons_succ]; rfl)
            case a5g2 => kernel_rfl
            case b5g2 => kernel_rfl
            case c5g2 => kernel_rfl
            case q5g2 => exact fun _ _ _ h => h
            case w5g2 => rfl
            case s5g2 => assumption
            case h5g2 => (intro W hSw; obtain ⟨a1, a2⟩ := hSw; go_simp; try with_reducible rfl)
            try simp only [Act.put, List.setIfInBounds_toArray, List.set_cons_zero, List.set_cons_succ]
            refine wpAnyH_take (i := 6) (oi := ?o6g2) (v := ?v6g2) ?e6g2 ?a6g2 ?b6g2 ?c6g2 ?q6g2 (Or.inl ⟨?w6g2, ?h6g2⟩) ?s6g2 ?r6g2
            case e6g2 => (simp only [List.getElem?_toArray, List.getElem?_cons_zero, List.getElem?_cons_succ]; rfl)
            case a6g2 => kernel_rfl
            case b6g2 => kernel_rfl
            case c6g2 => kernel_rfl
            case q6g2 => exact fun _ _ _ h => h
            case w6g2 => rfl
            case s6g2 => assumption
            case h6g2 => (intro W hSw; obtain ⟨a1, a2⟩ := hSw; go_simp; try with_reducible rfl)
            try simp only [Act.put, List.setIfInBounds_toArray, List.set_cons_zero, List.set_cons_succ]
            refine wpAnyH_take (i := 7) (oi := ?o7g2) (v := ?v7g2) ?e7g2 ?a7g2 ?b7g2 ?c7g2 ?q7g2 (Or.inl ⟨?w7g2, ?h7g2⟩) ?s7g2 ?r7g2
            case e7g2 => (simp only [List.getElem?_toArray, List.getElem?_cons_zero, List.getElem?_cons_succ]; rfl)
            case a7g2 => kernel_rfl
            case b7g2 => kernel_rfl
            case c7g2 => kernel_rfl
            case q7g2 => exact fun _ _ _ h => h
            case w7g2 => rfl
            case s7g2 => assumption
            case h7g2 => (intro W hSw; obtain ⟨a1, a2⟩ := hSw; go_simp; try with_reducible rfl)
            try simp only [Act.put, List.setIfInBounds_toArray, List.set_cons_zero, List.set_cons_succ]
            refine wpAnyH_ready (rs := [2]) (by kernel_rfl) (by simp) (AllReadyH.cons (o := ?o2z8g2) ?e2z8g2 (fun K hK => ?k2z8g2) AllReadyH.nil)
            case e2z8g2 => (simp only [List.getElem?_toArray, List.getElem?_cons_zero, List.getElem?_cons_succ]; rfl)
            go_simp
            (with_reducible refine (HNX.out V9 (btr HB.out HB9.out)).mono ?_)
            rintro e w3 ⟨v3, rfl, hr3, hb3⟩
            obtain ⟨a3, c3, rfl, -⟩ := hr3
            have HBR := Lib.hid (btr HB9.out hb3)
            have HBW3 := Lib.hid (btr HB.out HBR.out)
            have hS1 : (fun V : World => V.cell? ⟨r, 1, none⟩ = some (.int .i64 kl) ∧ V.cell? ⟨r, 2, none⟩ = some (.int .i64 vl)) w3 := HSK.out w3 HBR.out
            clear hb3
            go_wp2_with fail
            refine hK.out _ _ hS1 (fun _ => ?_)
            clear hK K
            try simp only [Act.put, List.setIfInBounds_toArray, List.set_cons_zero, List.set_cons_succ]
            refine wpAnyH_take (i := 3) (oi := ?o3g2) (v := ?v3g2) ?e3g2 ?a3g2 ?b3g2 ?c3g2 ?q3g2 (Or.inl ⟨?w3g2, ?h3g2⟩) ?s3g2 ?r3g2
            case e3g2 => (simp only [List.getElem?_toArray, List.getElem?_cons_zero, List.getElem?_cons_succ]; rfl)
            case a3g2 => kernel_rfl
            case b3g2 => kernel_rfl
            case c3g2 => kernel_rfl
            case q3g2 => exact fun _ _ _ h => h
            case w3g2 => rfl
            case s3g2 => assumption
            case h3g2 => (intro W hSw; obtain ⟨a1, a2⟩ := hSw; go_simp; try with_reducible rfl)
            try simp only [Act.put, List.setIfInBounds_toArray, List.set_cons_zero, List.set_cons_succ]
            refine wpAnyH_take (i := 8) (oi := ?o8g2) (v := ?v8g2) ?e8g2 ?a8g2 ?b8g2 ?c8g2 ?q8g2 (Or.inl ⟨?w8g2, ?h8g2⟩) ?s8g2 ?r8g2
            case e8g2 => (simp only [List.getElem?_toArray, List.getElem?_cons_zero, List.getElem?_cons_succ]; rfl)
            case a8g2 => kernel_rfl
            case b8g2 => kernel_rfl
            case c8g2 => kernel_rfl
            case q8g2 => exact fun _ _ _ h => h
            case w8g2 => rfl
            case s8g2 => assumption
            case h8g2 => (intro W hSw; obtain ⟨a1, a2⟩ := hSw; go_simp; try with_reducible rfl)
            try simp only [Act.put, List.setIfInBounds_toArray, List.set_cons_zero, List.set_cons_succ]
            try simp only [hk']
            refine wpAnyH_take (i := 9) (oi := ?o9g2) (v := ?v9g2) ?e9g2 ?a9g2 ?b9g2 ?c9g2 ?q9g2 (Or.inl ⟨?w9g2, ?h9g2⟩) ?s9g2 ?r9g2
            case e9g2 => (simp only [List.getElem?_toArray, List.getElem?_cons_zero, List.getElem?_cons_succ]; rfl)
            case a9g2 => kernel_rfl
            case b9g2 => kernel_rfl
            case c9g2 => kernel_rfl
            case q9g2 => exact fun _ _ _ h => h
            case w9g2 => rfl
            case s9g2 => assumption
            case h9g2 => (intro W hSw; obtain ⟨a1, a2⟩ := hSw; go_simp; try with_reducible rfl)
            try simp only [Act.put, List.setIfInBounds_toArray, List.set_cons_zero, List.set_cons_succ]
            refine wpAnyH_take (i := 10) (oi := ?o10g2) (v := ?v10g2) ?e10g2 ?a10g2 ?b10g2 ?c10g2 ?q10g2 (Or.inl ⟨?w10g2, ?h10g2⟩) ?s10g2 ?r10g2
            case e10g2 => (simp only [List.getElem?_toArray, List.getElem?_cons_zero, List.getElem?_cons_succ]; rfl)
            case a10g2 => kernel_rfl
            case b10g2 => kernel_rfl
            case c10g2 => kernel_rfl
            case q10g2 => exact fun _ _ _ h => h
            case w10g2 => rfl
            case s10g2 => assumption
            case h10g2 => (intro W hSw; obtain ⟨a1, a2⟩ := hSw; go_simp; try with_reducible rfl)
            try simp only [Act.put, List.setIfInBounds_toArray, List.set_cons_zero, List.set_cons_succ]
            refine wpAnyH_take (i := 12) (oi := ?o12g2) (v := ?v12g2) ?e12g2 ?a12g2 ?b12g2 ?c12g2 ?q12g2 (Or.inl ⟨?w12g2, ?h12g2⟩) ?s12g2 ?r12g2
            case e12g2 => (simp only [List.getElem?_toArray, List.getElem?_cons_zero, List.getElem?_cons_succ]; rfl)
            case a12g2 => kernel_rfl
            case b12g2 => kernel_rfl
            case c12g2 => kernel_rfl
            case q12g2 => exact fun _ _ _ h => h
            case w12g2 => rfl
            case s12g2 => assumption
            case h12g2 => (intro W hSw; obtain ⟨a1, a2⟩ := hSw; go_simp; try with_reducible rfl)
            try simp only [Act.put, List.setIfInBounds_toArray, List.set_cons_zero, List.set_cons_succ]
            refine wpAnyH_take (i := 13) (oi := ?o13g2) (v := ?v13g2) ?e13g2 ?a13g2 ?b13g2 ?c13g2 ?q13g2 (Or.inl ⟨?w13g2, ?h13g2⟩) ?s13g2 ?r13g2
            case e13g2 => (simp only [List.getElem?_toArray, List.getElem?_cons_zero, List.getElem?_cons_succ]; rfl)
            case a13g2 => kernel_rfl
            case b13g2 => kernel_rfl
            case c13g2 => kernel_rfl
            case q13g2 => exact fun _ _ _ h => h
            case w13g2 => rfl
            case s13g2 => assumption
            case h13g2 => (intro W hSw; obtain ⟨a1, a2⟩ := hSw; go_simp; try with_reducible rfl)
            try simp only [Act.put, List.setIfInBounds_toArray, List.set_cons_zero, List.set_cons_succ]
            refine wpAnyH_take (i := 15) (oi := ?o15g2) (v := ?v15g2) ?e15g2 ?a15g2 ?b15g2 ?c15g2 ?q15g2 (Or.inl ⟨?w15g2, ?h15g2⟩) ?s15g2 ?r15g2
            case e15g2 => (simp only [List.getElem?_toArray, List.getElem?_cons_zero, List.getElem?_cons_succ]; rfl)
            case a15g2 => kernel_rfl
            case b15g2 => kernel_rfl
            case c15g2 => kernel_rfl
            case q15g2 => exact fun _ _ _ h => h
            case w15g2 => rfl
            case s15g2 => assumption
            case h15g2 => (intro W hSw; obtain ⟨a1, a2⟩ := hSw; go_simp; try with_reducible rfl)
            try simp only [Act.put, List.setIfInBounds_toArray, List.set_cons_zero, List.set_cons_succ]
            refine wpAnyH_take (i := 16) (oi := ?o16g2) (v := ?v16g2) ?e16g2 ?a16g2 ?b16g2 ?c16g2 ?q16g2 (Or.inl ⟨?w16g2, ?h16g2⟩) ?s16g2 ?r16g2
            case e16g2 => (simp only [List.getElem?_toArray, List.getElem?_cons_zero, List.getElem?_cons_succ]; rfl)
            case a16g2 => kernel_rfl
            case b16g2 => kernel_rfl
            case c16g2 => kernel_rfl
            case q16g2 => exact fun _ _ _ h => h
            case w16g2 => rfl
            case s16g2 => assumption
            case h16g2 => (intro W hSw; obtain ⟨a1, a2⟩ := hSw; go_simp; try with_reducible rfl)
            try simp only [Act.put, List.setIfInBounds_toArray, List.set_cons_zero, List.set_cons_succ]
            refine wpAnyH_take (i := 17) (oi := ?o17g2) (v := ?v17g2) ?e17g2 ?a17g2 ?b17g2 ?c17g2 ?q17g2 (Or.inl ⟨?w17g2, ?h17g2⟩) ?s17g2 ?r17g2
            case e17g2 => (simp only [List.getElem?_toArray, List.getElem?_cons_zero, List.getElem?_cons_succ]; rfl)
            case a17g2 => kernel_rfl
            case b17g2 => kernel_rfl
            case c17g2 => kernel_rfl
            case q17g2 => exact fun _ _ _ h => h
            case w17g2 => rfl
            case s17g2 => assumption
            case h17g2 => (intro W hSw; obtain ⟨a1, a2⟩ := hSw; go_simp; try with_reducible rfl)
            try simp only [Act.put, List.setIfInBounds_toArray, List.set_cons_zero, List.set_cons_succ]
            refine wpAnyH_take (i := 18) (oi := ?o18g2) (v := ?v18g2) ?e18g2 ?a18g2 ?b18g2 ?c18g2 ?q18g2 (Or.inl ⟨?w18g2, ?h18g2⟩) ?s18g2 ?r18g2
            case e18g2 => (simp only [List.getElem?_toArray, List.getElem?_cons_zero, List.getElem?_cons_succ]; rfl)
            case a18g2 => kernel_rfl
            case b18g2 => kernel_rfl
            case c18g2 => kernel_rfl
            case q18g2 => exact fun _ _ _ h => h
            case w18g2 => rfl
            case s18g2 => assumption
            case h18g2 => (intro W hSw; obtain ⟨a1, a2⟩ := hSw; go_simp; try with_reducible rfl)
            try simp only [Act.put, List.setIfInBounds_toArray, List.set_cons_zero, List.set_cons_succ]
            refine wpAnyH_ready (rs := [11]) (by kernel_rfl) (by simp) (AllReadyH.cons (o := ?o11z9g2) ?e11z9g2 (fun K hK => ?k11z9g2) AllReadyH.nil)
            case e11z9g2 => (simp only [List.getElem?_toArray, List.getElem?_cons_zero, List.getElem?_cons_succ]; rfl)
            go_simp
            (with_reducible refine (HCN.out w3 HBW3.out).mono ?_)
            rintro e w4 ⟨rfl, hw4⟩
            subst w4
            have hS1 : (fun V : World => V.cell? ⟨r, 1, none⟩ = some (.int .i64 kl) ∧ V.cell? ⟨r, 2, none⟩ = some (.int .i64 vl)) w3 := HSK.out w3 HBR.out
            go_wp2_with fail
            refine hK.out _ _ hS1 (fun _ => ?_)
            clear hK K
            try simp only [Act.put, List.setIfInBounds_toArray, List.set_cons_zero, List.set_cons_succ]
            refine wpAnyH_take (i := 14) (oi := ?o14g2) (v := ?v14g2) ?e14g2 ?a14g2 ?b14g2 ?c14g2 ?q14g2 (Or.inl ⟨?w14g2, ?h14g2⟩) ?s14g2 ?r14g2
            case e14g2 => (simp only [List.getElem?_toArray, List.getElem?_cons_zero, List.getElem?_cons_succ]; rfl)
            case a14g2 => kernel_rfl
            case b14g2 => kernel_rfl
            case c14g2 => kernel_rfl
            case q14g2 => exact fun _ _ _ h => h
            case w14g2 => rfl
            case s14g2 => assumption
            case h14g2 => (intro W hSw; obtain ⟨a1, a2⟩ := hSw; go_simp; try with_reducible rfl)
            try simp only [Act.put, List.setIfInBounds_toArray, List.set_cons_zero, List.set_cons_succ]
            refine wpAnyH_take (i := 19) (oi := ?o19g2) (v := ?v19g2) ?e19g2 ?a19g2 ?b19g2 ?c19g2 ?q19g2 (Or.inl ⟨?w19g2, ?h19g2⟩) ?s19g2 ?r19g2
            case e19g2 => (simp only [List.getElem?_toArray, List.getElem?_cons_zero, List.getElem?_cons_succ]; rfl)
            case a19g2 => kernel_rfl
            case b19g2 => kernel_rfl
            case c19g2 => kernel_rfl
            case q19g2 => exact fun _ _ _ h => h
            case w19g2 => rfl
            case s19g2 => assumption
            case h19g2 => (intro W hSw; obtain ⟨a1, a2⟩ := hSw; go_simp; try with_reducible rfl)
            try simp only [Act.put, List.setIfInBounds_toArray, List.set_cons_zero, List.set_cons_succ]
            try simp only [hv']
            refine wpAnyH_take (i := 20) (oi := ?o20g2) (v := ?v20g2) ?e20g2 ?a20g2 ?b20g2 ?c20g2 ?q20g2 (Or.inl ⟨?w20g2, ?h20g2⟩) ?s20g2 ?r20g2
            case e20g2 => (simp only [List.getElem?_toArray, List.getElem?_cons_zero, List.getElem?_cons_succ]; rfl)
            case a20g2 => kernel_rfl
            case b20g2 => kernel_rfl
            case c20g2 => kernel_rfl
            case q20g2 => exact fun _ _ _ h => h
            case w20g2 => rfl
            case s20g2 => assumption
            case h20g2 => (intro W hSw; obtain ⟨a1, a2⟩ := hSw; go_simp; try with_reducible rfl)
            try simp only [Act.put, List.setIfInBounds_toArray, List.set_cons_zero, List.set_cons_succ]
            refine wpAnyH_done (by kernel_rfl) ?_ _
            go_wp2
            go_ret
            exact ⟨by rw [HRR.out, HGT.out, if_neg (by decide), if_neg HNZ.out, HR7.out]; rfl, HBW3.out⟩
          · have hv' : decide (vl < ((su : Nat) : Int) + (t : Int)) = false := decide_eq_false hv
            have HR7 : Hid ((if kl < (NX.length : Int) ∨ vl < (su : Nat) + (t : Nat) then (7 : Int) else 0) = 0) := if_neg (fun e => e.elim hk hv)
            clear hk hv
            go_upto_region 16 with (fail)
            have hS0 : (fun V : World => V.cell? ⟨r, 1, none⟩ = some (.int .i64 kl) ∧ V.cell? ⟨r, 2, none⟩ = some (.int .i64 vl)) wr.drew := HSK.out wr.drew (bdr wr)
            obtain ⟨V9, hV9⟩ : ∃ V9, V9 = wr.drew := ⟨_, rfl⟩
            have hS9 : (fun V : World => V.cell? ⟨r, 1, none⟩ = some (.int .i64 kl) ∧ V.cell? ⟨r, 2, none⟩ = some (.int .i64 vl)) V9 := by rw [hV9]; exact hS0
            have HB9 : Hid (Below wr.heap.size wr V9) := by rw [hV9]; exact Lib.hid (bdr wr)
            refine wp_region_held_drew (S := (fun V : World => V.cell? ⟨r, 1, none⟩ = some (.int .i64 kl) ∧ V.cell? ⟨r, 2, none⟩ = some (.int .i64 vl))) (by kernel_rfl) hS0 (fun hHeld => ?_)
            rw [← hV9] at hHeld ⊢
            clear hV9 hS0 hHeld
            refine wpAnyH_take (i := 0) (oi := ?o0g3) (v := ?v0g3) ?e0g3 ?a0g3 ?b0g3 ?c0g3 ?q0g3 (Or.inl ⟨?w0g3, ?h0g3⟩) ?s0g3 ?r0g3
            case e0g3 => (simp only [List.getElem?_toArray, List.getElem?_cons_zero, List.getElem?_cons_succ]; rfl)
            case a0g3 => kernel_rfl
            case b0g3 => kernel_rfl
            case c0g3 => kernel_rfl
            case q0g3 => exact fun _ _ _ h => h
            case w0g3 => rfl
            case s0g3 => assumption
            case h0g3 => (intro W hSw; obtain ⟨a1, a2⟩ := hSw; go_simp; try with_reducible rfl)
            try simp only [Act.put, List.setIfInBounds_toArray, List.set_cons_zero, List.set_cons_succ]
            refine wpAnyH_take (i := 1) (oi := ?o1g3) (v := ?v1g3) ?e1g3 ?a1g3 ?b1g3 ?c1g3 ?q1g3 (Or.inl ⟨?w1g3, ?h1g3⟩) ?s1g3 ?r1g3
            case e1g3 => (simp only [List.getElem?_toArray, List.getElem?_cons_zero, List.getElem?_cons_succ]; rfl)
            case a1g3 => kernel_rfl
            case b1g3 => kernel_rfl
            case c1g3 => kernel_rfl
            case q1g3 => exact fun _ _ _ h => h
            case w1g3 => rfl
            case s1g3 => assumption
            case h1g3 => (intro W hSw; obtain ⟨a1, a2⟩ := hSw; go_simp; try with_reducible rfl)
            try simp only [Act.put, List.setIfInBounds_toArray, List.set_cons_zero, List.set_cons_succ]
            refine wpAnyH_take (i := 4) (oi := ?o4g3) (v := ?v4g3) ?e4g3 ?a4g3 ?b4g3 ?c4g3 ?q4g3 (Or.inl ⟨?w4g3, ?h4g3⟩) ?s4g3 ?r4g3
            case e4g3 => (simp only [List.getElem?_toArray, List.getElem?_cons_zero, List.getElem?_cons_succ]; rfl)
            case a4g3 => kernel_rfl
            case b4g3 => kernel_rfl
            case c4g3 => kernel_rfl
            case q4g3 => exact fun _ _ _ h => h
            case w4g3 => rfl
            case s4g3 => assumption
            case h4g3 => (intro W hSw; obtain ⟨a1, a2⟩ := hSw; go_simp; try with_reducible rfl)
            try simp only [Act.put, List.setIfInBounds_toArray, List.set_cons_zero, List.set_cons_succ]
            refine wpAnyH_take (i := 5) (oi := ?o5g3) (v := ?v5g3) ?e5g3 ?a5g3 ?b5g3 ?c5g3 ?q5g3 (Or.inl ⟨?w5g3, ?h5g3⟩) ?s5g3 ?r5g3
            case e5g3 => (simp only [List.getElem?_toArray, List.getElem?_cons_zero, List.getElem?_cons_succ]; rfl)
            case a5g3 => kernel_rfl
            case b5g3 => kernel_rfl
            case c5g3 => kernel_rfl
            case q5g3 => exact fun _ _ _ h => h
            case w5g3 => rfl
            case s5g3 => assumption
            case h5g3 => (intro W hSw; obtain ⟨a1, a2⟩ := hSw; go_simp; try with_reducible rfl)
            try simp only [Act.put, List.setIfInBounds_toArray, List.set_cons_zero, List.set_cons_succ]
            refine wpAnyH_take (i := 6) (oi := ?o6g3) (v := ?v6g3) ?e6g3 ?a6g3 ?b6g3 ?c6g3 ?q6g3 (Or.inl ⟨?w6g3, ?h6g3⟩) ?s6g3 ?r6g3
            case e6g3 => (simp only [List.getElem?_toArray, List.getElem?_cons_zero, List.getElem?_cons_succ]; rfl)
            case a6g3 => kernel_rfl
            case b6g3 => kernel_rfl
            case c6g3 => kernel_rfl
            case q6g3 => exact fun _ _ _ h => h
            case w6g3 => rfl
            case s6g3 => assumption
            case h6g3 => (intro W hSw; obtain ⟨a1, a2⟩ := hSw; go_simp; try with_reducible rfl)
            try simp only [Act.put, List.setIfInBounds_toArray, List.set_cons_zero, List.set_cons_succ]
            refine wpAnyH_take (i := 7) (oi := ?o7g3) (v := ?v7g3) ?e7g3 ?a7g3 ?b7g3 ?c7g3 ?q7g3 (Or.inl ⟨?w7g3, ?h7g3⟩) ?s7g3 ?r7g3
            case e7g3 => (simp only [List.getElem?_toArray, List.getElem?_cons_zero, List.getElem?_cons_succ]; rfl)
            case a7g3 => kernel_rfl
            case b7g3 => kernel_rfl
            case c7g3 => kernel_rfl
            case q7g3 => exact fun _ _ _ h => h
            case w7g3 => rfl
            case s7g3 => assumption
            case h7g3 => (intro W hSw; obtain ⟨a1, a2⟩ := hSw; go_simp; try with_reducible rfl)
            try simp only [Act.put, List.setIfInBounds_toArray, List.set_cons_zero, List.set_cons_succ]
            refine wpAnyH_ready (rs := [2]) (by kernel_rfl) (by simp) (AllReadyH.cons (o := ?o2z8g3) ?e2z8g3 (fun K hK => ?k2z8g3) AllReadyH.nil)
            case e2z8g3 => (simp only [List.getElem?_toArray, List.getElem?_cons_zero, List.getElem?_cons_succ]; rfl)
            go_simp
            (with_reducible refine (HNX.out V9 (btr HB.out HB9.out)).mono ?_)
            rintro e w3 ⟨v3, rfl, hr3, hb3⟩
            obtain ⟨a3, c3, rfl, -⟩ := hr3
            have HBR := Lib.hid (btr HB9.out hb3)
            have HBW3 := Lib.hid (btr HB.out HBR.out)
            have hS1 : (fun V : World => V.cell? ⟨r, 1, none⟩ = some (.int .i64 kl) ∧ V.cell? ⟨r, 2, none⟩ = some (.int .i64 vl)) w3 := HSK.out w3 HBR.out
            clear hb3
            go_wp2_with fail
            refine hK.out _ _ hS1 (fun _ => ?_)
            clear hK K
            try simp only [Act.put, List.setIfInBounds_toArray, List.set_cons_zero, List.set_cons_succ]
            refine wpAnyH_take (i := 3) (oi := ?o3g3) (v := ?v3g3) ?e3g3 ?a3g3 ?b3g3 ?c3g3 ?q3g3 (Or.inl ⟨?w3g3, ?h3g3⟩) ?s3g3 ?r3g3
            case e3g3 => (simp only [List.getElem?_toArray, List.getElem?_cons_zero, List.getElem?_cons_succ]; rfl)
            case a3g3 => kernel_rfl
            case b3g3 => kernel_rfl
            case c3g3 => kernel_rfl
            case q3g3 => exact fun _ _ _ h => h
            case w3g3 => rfl
            case s3g3 => assumption
            case h3g3 => (intro W hSw; obtain ⟨a1, a2⟩ := hSw; go_simp; try with_reducible rfl)
            try simp only [Act.put, List.setIfInBounds_toArray, List.set_cons_zero, List.set_cons_succ]
            refine wpAnyH_take (i := 8) (oi := ?o8g3) (v := ?v8g3) ?e8g3 ?a8g3 ?b8g3 ?c8g3 ?q8g3 (Or.inl ⟨?w8g3, ?h8g3⟩) ?s8g3 ?r8g3
            case e8g3 => (simp only [List.getElem?_toArray, List.getElem?_cons_zero, List.getElem?_cons_succ]; rfl)
            case a8g3 => kernel_rfl
            case b8g3 => kernel_rfl
            case c8g3 => kernel_rfl
            case q8g3 => exact fun _ _ _ h => h
            case w8g3 => rfl
            case s8g3 => assumption
            case h8g3 => (intro W hSw; obtain ⟨a1, a2⟩ := hSw; go_simp; try with_reducible rfl)
            try simp only [Act.put, List.setIfInBounds_toArray, List.set_cons_zero, List.set_cons_succ]
            try simp only [hk']
            refine wpAnyH_take (i := 9) (oi := ?o9g3) (v := ?v9g3) ?e9g3 ?a9g3 ?b9g3 ?c9g3 ?q9g3 (Or.inl ⟨?w9g3, ?h9g3⟩) ?s9g3 ?r9g3
            case e9g3 => (simp only [List.getElem?_toArray, List.getElem?_cons_zero, List.getElem?_cons_succ]; rfl)
            case a9g3 => kernel_rfl
            case b9g3 => kernel_rfl
            case c9g3 => kernel_rfl
            case q9g3 => exact fun _ _ _ h => h
            case w9g3 => rfl
            case s9g3 => assumption
            case h9g3 => (intro W hSw; obtain ⟨a1, a2⟩ := hSw; go_simp; try with_reducible rfl)
            try simp only [Act.put, List.setIfInBounds_toArray, List.set_cons_zero, List.set_cons_succ]
            refine wpAnyH_take (i := 10) (oi := ?o10g3) (v := ?v10g3) ?e10g3 ?a10g3 ?b10g3 ?c10g3 ?q10g3 (Or.inl ⟨?w10g3, ?h10g3⟩) ?s10g3 ?r10g3
            case e10g3 => (simp only [List.getElem?_toArray, List.getElem?_cons_zero, List.getElem?_cons_succ]; rfl)
            case a10g3 => kernel_rfl
            case b10g3 => kernel_rfl
            case c10g3 => kernel_rfl
            case q10g3 => exact fun _ _ _ h => h
            case w10g3 => rfl
            case s10g3 => assumption
            case h10g3 => (intro W hSw; obtain ⟨a1, a2⟩ := hSw; go_simp; try with_reducible rfl)
            try simp only [Act.put, List.setIfInBounds_toArray, List.set_cons_zero, List.set_cons_succ]
            refine wpAnyH_take (i := 12) (oi := ?o12g3) (v := ?v12g3) ?e12g3 ?a12g3 ?b12g3 ?c12g3 ?q12g3 (Or.inl ⟨?w12g3, ?h12g3⟩) ?s12g3 ?r12g3
            case e12g3 => (simp only [List.getElem?_toArray, List.getElem?_cons_zero, List.getElem?_cons_succ]; rfl)
            case a12g3 => kernel_rfl
            case b12g3 => kernel_rfl
            case c12g3 => kernel_rfl
            case q12g3 => exact fun _ _ _ h => h
            case w12g3 => rfl
            case s12g3 => assumption
            case h12g3 => (intro W hSw; obtain ⟨a1, a2⟩ := hSw; go_simp; try with_reducible rfl)
            try simp only [Act.put, List.setIfInBounds_toArray, List.set_cons_zero, List.set_cons_succ]
            refine wpAnyH_take (i := 13) (oi := ?o13g3) (v := ?v13g3) ?e13g3 ?a13g3 ?b13g3 ?c13g3 ?q13g3 (Or.inl ⟨?w13g3, ?h13g3⟩) ?s13g3 ?r13g3
            case e13g3 => (simp only [List.getElem?_toArray, List.getElem?_cons_zero, List.getElem?_cons_succ]; rfl)
            case a13g3 => kernel_rfl
            case b13g3 => kernel_rfl
            case c13g3 => kernel_rfl
            case q13g3 => exact fun _ _ _ h => h
            case w13g3 => rfl
            case s13g3 => assumption
            case h13g3 => (intro W hSw; obtain ⟨a1, a2⟩ := hSw; go_simp; try with_reducible rfl)
            try simp only [Act.put, List.setIfInBounds_toArray, List.set_cons_zero, List.set_cons_succ]
            refine wpAnyH_take (i := 15) (oi := ?o15g3) (v := ?v15g3) ?e15g3 ?a15g3 ?b15g3 ?c15g3 ?q15g3 (Or.inl ⟨?w15g3, ?h15g3⟩) ?s15g3 ?r15g3
            case e15g3 => (simp only [List.getElem?_toArray, List.getElem?_cons_zero, List.getElem?_cons_succ]; rfl)
            case a15g3 => kernel_rfl
            case b15g3 => kernel_rfl
            case c15g3 => kernel_rfl
            case q15g3 => exact fun _ _ _ h => h
            case w15g3 => rfl
            case s15g3 => assumption
            case h15g3 => (intro W hSw; obtain ⟨a1, a2⟩ := hSw; go_simp; try with_reducible rfl)
            try simp only [Act.put, List.setIfInBounds_toArray, List.set_cons_zero, List.set_cons_succ]
            refine wpAnyH_take (i := 16) (oi := ?o16g3) (v := ?v16g3) ?e16g3 ?a16g3 ?b16g3 ?c16g3 ?q16g3 (Or.inl ⟨?w16g3, ?h16g3⟩) ?s16g3 ?r16g3
            case e16g3 => (simp only [List.getElem?_toArray, List.getElem?_cons_zero, List.getElem?_cons_succ]; rfl)
            case a16g3 => kernel_rfl
            case b16g3 => kernel_rfl
            case c16g3 => kernel_rfl
            case q16g3 => exact fun _ _ _ h => h
            case w16g3 => rfl
            case s16g3 => assumption
            case h16g3 => (intro W hSw; obtain ⟨a1, a2⟩ := hSw; go_simp; try with_reducible rfl)
            try simp only [Act.put, List.setIfInBounds_toArray, List.set_cons_zero, List.set_cons_succ]
            refine wpAnyH_take (i := 17) (oi := ?o17g3) (v := ?v17g3) ?e17g3 ?a17g3 ?b17g3 ?c17g3 ?q17g3 (Or.inl ⟨?w17g3, ?h17g3⟩) ?s17g3 ?r17g3
            case e17g3 => (simp only [List.getElem?_toArray, List.getElem?_cons_zero, List.getElem?_cons_succ]; rfl)
            case a17g3 => kernel_rfl
            case b17g3 => kernel_rfl
            case c17g3 => kernel_rfl
            case q17g3 => exact fun _ _ _ h => h
            case w17g3 => rfl
            case s17g3 => assumption
            case h17g3 => (intro W hSw; obtain ⟨a1, a2⟩ := hSw; go_simp; try with_reducible rfl)
            try simp only [Act.put, List.setIfInBounds_toArray, List.set_cons_zero, List.set_cons_succ]
            refine wpAnyH_take (i := 18) (oi := ?o18g3) (v := ?v18g3) ?e18g3 ?a18g3 ?b18g3 ?c18g3 ?q18g3 (Or.inl ⟨?w18g3, ?h18g3⟩) ?s18g3 ?r18g3
            case e18g3 => (simp only [List.getElem?_toArray, List.getElem?_cons_zero, List.getElem?_cons_succ]; rfl)
            case a18g3 => kernel_rfl
            case b18g3 => kernel_rfl
            case c18g3 => kernel_rfl
            case q18g3 => exact fun _ _ _ h => h
            case w18g3 => rfl
            case s18g3 => assumption
            case h18g3 => (intro W hSw; obtain ⟨a1, a2⟩ := hSw; go_simp; try with_reducible rfl)
            try simp only [Act.put, List.setIfInBounds_toArray, List.set_cons_zero, List.set_cons_succ]
            refine wpAnyH_ready (rs := [11]) (by kernel_rfl) (by simp) (AllReadyH.cons (o := ?o11z9g3) ?e11z9g3 (fun K hK => ?k11z9g3) AllReadyH.nil)
            case e11z9g3 => (simp only [List.getElem?_toArray, List.getElem?_cons_zero, List.getElem?_cons_succ]; rfl)
            go_simp
            (with_reducible refine (HCN.out w3 HBW3.out).mono ?_)
            rintro e w4 ⟨rfl, hw4⟩
            subst w4
            have hS1 : (fun V : World => V.cell? ⟨r, 1, none⟩ = some (.int .i64 kl) ∧ V.cell? ⟨r, 2, none⟩ = some (.int .i64 vl)) w3 := HSK.out w3 HBR.out
            go_wp2_with fail
            refine hK.out _ _ hS1 (fun _ => ?_)
            clear hK K
            try simp only [Act.put, List.setIfInBounds_toArray, List.set_cons_zero, List.set_cons_succ]
            refine wpAnyH_take (i := 14) (oi := ?o14g3) (v := ?v14g3) ?e14g3 ?a14g3 ?b14g3 ?c14g3 ?q14g3 (Or.inl ⟨?w14g3, ?h14g3⟩) ?s14g3 ?r14g3
            case e14g3 => (simp only [List.getElem?_toArray, List.getElem?_cons_zero, List.getElem?_cons_succ]; rfl)
            case a14g3 => kernel_rfl
            case b14g3 => kernel_rfl
            case c14g3 => kernel_rfl
            case q14g3 => exact fun _ _ _ h => h
            case w14g3 => rfl
            case s14g3 => assumption
            case h14g3 => (intro W hSw; obtain ⟨a1, a2⟩ := hSw; go_simp; try with_reducible rfl)
            try simp only [Act.put, List.setIfInBounds_toArray, List.set_cons_zero, List.set_cons_succ]
            refine wpAnyH_take (i := 19) (oi := ?o19g3) (v := ?v19g3) ?e19g3 ?a19g3 ?b19g3 ?c19g3 ?q19g3 (Or.inl ⟨?w19g3, ?h19g3⟩) ?s19g3 ?r19g3
            case e19g3 => (simp only [List.getElem?_toArray, List.getElem?_cons_zero, List.getElem?_cons_succ]; rfl)
            case a19g3 => kernel_rfl
            case b19g3 => kernel_rfl
            case c19g3 => kernel_rfl
            case q19g3 => exact fun _ _ _ h => h
            case w19g3 => rfl
            case s19g3 => assumption
            case h19g3 => (intro W hSw; obtain ⟨a1, a2⟩ := hSw; go_simp; try with_reducible rfl)
            try simp only [Act.put, List.setIfInBounds_toArray, List.set_cons_zero, List.set_cons_succ]
            try simp only [hv']
            refine wpAnyH_take (i := 20) (oi := ?o20g3) (v := ?v20g3) ?e20g3 ?a20g3 ?b20g3 ?c20g3 ?q20g3 (Or.inl ⟨?w20g3, ?h20g3⟩) ?s20g3 ?r20g3
            case e20g3 => (simp only [List.getElem?_toArray, List.getElem?_cons_zero, List.getElem?_cons_succ]; rfl)
            case a20g3 => kernel_rfl
            case b20g3 => kernel_rfl
            case c20g3 => kernel_rfl
            case q20g3 => exact fun _ _ _ h => h
            case w20g3 => rfl
            case s20g3 => assumption
            case h20g3 => (intro W hSw; obtain ⟨a1, a2⟩ := hSw; go_simp; try with_reducible rfl)
            try simp only [Act.put, List.setIfInBounds_toArray, List.set_cons_zero, List.set_cons_succ]
            refine wpAnyH_done (by kernel_rfl) ?_ _
            go_wp2
            go_ret
            exact ⟨by rw [HRR.out, HGT.out, if_neg (by decide), if_neg HNZ.out, HR7.out]; rfl, HBW3.out⟩
end Go.Proofs.Ytjceofkcahfhmaa.Mv
