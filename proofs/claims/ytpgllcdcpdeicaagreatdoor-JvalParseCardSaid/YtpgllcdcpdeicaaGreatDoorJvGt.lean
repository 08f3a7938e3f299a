/- Contracts and plain mathematics of some packages' functions, laid together; conditions as each one says. -/
import Derived.Test.YtpgllcdcpdeicaaGreatDoorJvGh
import Derived.Deep.RegionLaw
namespace Go.Proofs.YtpgllcdcpdeicaaGreatDoor.Jv
open Jt
open Go.RowKit Go.ChangeMaps Go.MapKept Go.WideMaps
set_option linter.unusedSimpArgs false
set_option linter.unusedVariables false

theorem CuQ.weak {P Q : Nat → Prop} {x : JV} {w w' : World} {e : Ending} (h : CuQ x (fun k => P k ∧ Q k) w e w') : CuQ x P w e w' := by
  obtain ⟨xk, xb, xn, xt, xo, xl, xq, yo, yl, yq, he, hr, hb⟩ := h
  exact ⟨xk, xb, xn, xt, xo, xl, xq, yo, yl, yq, he, Rep.mono (fun k hk _ => by rcases hk with h | h; exact .inl h.1; exact .inr h) _ hr, hb⟩
theorem cu_fin {P : Nat → Prop} {w V V' : World} {k : Int} {is : Bool} {n : Int} {t : List UInt8} {xs : List JV} {ks : List (List UInt8)} {ao : Option Addr} {l1 q1 : Nat} {ap : Option Addr} {l2 q2 : Nat}
    (hu : Up w V) (hz : Grw (fun j => j = w.heap.size + 1) V V') (hn : l1 = xs.length) (hx : xs ≠ [] → ∃ g off, ao = some ⟨g, off, none⟩ ∧ (P g ∨ w.heap.size + 2 ≤ g) ∧ g < V.heap.size ∧ RepL (fun k => P k ∨ w.heap.size + 2 ≤ k) V xs g off)
    (hk : RdK (fun k => P k ∧ k < w.heap.size) V (.slice ap l2 q2) ks) (hP : ∀ k, P k → k < w.heap.size) : CuQ (.mk k is n t xs ks) P w (.returned (.agg #[.int .i64 k, .bool is, .int .i64 n, .string (mkS t), .slice ao l1 q1, .slice ap l2 q2])) V' := by
  refine ⟨k, is, n, mkS t, ao, l1, q1, ap, l2, q2, rfl, ?_, (Up.one hu hz (by omega)).below⟩
  have kep : Kep (fun k => P k ∨ w.heap.size + 2 ≤ k) V V' := ⟨hz.size, fun k hk hl => hz.block hl (by rcases hk with h | h; (have := hP k h; omega); omega)⟩
  unfold Rep
  refine ⟨ao, q1, .slice ap l2 q2, by rw [hn], RdK.mono (fun k hk _ => .inl hk.1) (RdK.keep (P := fun k => P k ∧ k < w.heap.size) ⟨hz.size, fun k hk hl => hz.block hl (by have := hk.2; omega)⟩ hk), fun hne => ?_⟩
  obtain ⟨g, off, e, hg, hl, hr⟩ := hx hne
  refine ⟨g, off, e, ?_, Nat.lt_of_lt_of_le hl hz.size, RepL.mono (fun k hk _ => ?_) xs (RepL.keep kep xs hg hl hr)⟩
  · rcases hg with h | h
    · exact .inl h
    · exact .inr (by omega)
  · rcases hk with h | h
    · exact .inl h
    · exact .inr (by omega)
theorem setR4 {w : World} {g : Nat} {k : Int} {b : Bool} {n : Int} {tx : ByteArray} {ao : Option Addr} {l1 q1 : Nat} {ap : Option Addr} {l2 q2 : Nat} (h : w.heap[g]? = some (obR k b n tx ao l1 q1 ap l2 q2)) (ao' : Option Addr) (l1' q1' : Nat) : (w.setCell ⟨g, 4, none⟩ (.slice ao' l1' q1')).heap[g]? = some (obR k b n tx ao' l1' q1' ap l2 q2) := by
  have := blk_set h 4 (.slice ao' l1' q1'); simpa using this
theorem plain_app {P : Nat → Prop} {w : World} {j ql : Nat} {aol : Option Addr} {ys : List JV} {x : JV} {W0 wr W1 V1 w4 : World} {xk : Int} {xb : Bool} {xn : Int} {xt : ByteArray} {xo : Option Addr} {xl xq : Nat} {yo : Option Addr} {yl yq : Nat}
    (hL : RW (fun k => (P k ∧ k < w.heap.size) ∨ W0.heap.size ≤ k) W0.heap.size 31 (.slice aol j ql) ys W1) (hy : ys.length = j) (hr : Rep (fun k => (P k ∧ k < w.heap.size) ∨ V1.heap.size ≤ k) w4 x (c6 xk xb xn xt xo xl xq yo yl yq)) (hv1 : V1.heap.size = W1.heap.size) (hb : Below W1.heap.size W1 w4) (h0 : W0.heap.size ≤ wr.heap.size) (h1 : wr.heap.size < W1.heap.size) (hwz : w.heap.size ≤ W0.heap.size) :
    ∃ css, Hid ((w4.alloc (obR xk xb xn xt xo xl xq yo yl yq)).ownsRow W0.heap.size 31 6 (.slice aol j ql) j (List.flatten css)) ∧
      Hid (RepA (fun k => ((P k ∧ k < w.heap.size) ∨ W0.heap.size ≤ k) ∧ (Value.slice aol j ql).ownBlock ≠ some k) (w4.alloc (obR xk xb xn xt xo xl xq yo yl yq)) ys css) ∧
      Hid (Rep (fun k => ((P k ∧ k < w.heap.size) ∨ W0.heap.size ≤ k) ∧ (Value.slice aol j ql).ownBlock ≠ some k) (w4.alloc (obR xk xb xn xt xo xl xq yo yl yq)) x (c6 xk xb xn xt xo xl xq yo yl yq)) ∧
      Hid (∀ i u, (c6 xk xb xn xt xo xl xq yo yl yq)[i]? = some u → (w4.alloc (obR xk xb xn xt xo xl xq yo yl yq)).cell? ((⟨w4.heap.size, 0, none⟩ : Addr).add i) = some u) ∧
      Hid (Below W1.heap.size W1 (w4.alloc (obR xk xb xn xt xo xl xq yo yl yq))) := by
  have hv := hL.lt
  subst hy
  obtain ⟨css, hown, hrepA⟩ := hL.go hb
  have hbA : Below w4.heap.size w4 (w4.alloc (obR xk xb xn xt xo xl xq yo yl yq)) := (Below.refl _ _).alloc (Nat.le_refl _) _
  refine ⟨css, row_keep hown (Grw.of_below (X := fun j => w4.heap.size ≤ j) hbA (fun k h _ => h)) (fun j e => ⟨(World.ownsRow.lt hown j e).2, by have := (World.ownsRow.lt hown j e).2; omega⟩), hrepA.keep (Kep.of hbA), Rep.mono (fun k hk _ => ?_) _ (Rep.keep (Kep.of hbA) _ hr), World.news_of_block (cs := #[.int .i64 xk, .bool xb, .int .i64 xn, .string xt, .slice xo xl xq, .slice yo yl yq]) (heap_alloc_new w4 _), btr hb hbA⟩
  rcases hk with hk | hk
  · exact ⟨.inl hk, fun e => by have := (hv k e).1; have := hk.2; omega⟩
  · exact ⟨.inr (by omega), fun e => by have := (hv k e).2; omega⟩
theorem plain_nxt {P : Nat → Prop} {w : World} {j ql g2 cap2 : Nat} {aol : Option Addr} {xs ys : List JV} {x : JV} {cx : List Value} {css : List (List Value)} {W0 wr W1 WA V2 : World} {k : Int} {is : Bool} {m : Int} {t : List UInt8} {ap : Option Addr} {l2 q2 : Nat}
    (hown : WA.ownsRow W0.heap.size 31 6 (.slice aol j ql) j (List.flatten css))
    (hra : RepA (fun k => ((P k ∧ k < w.heap.size) ∨ W0.heap.size ≤ k) ∧ (Value.slice aol j ql).ownBlock ≠ some k) WA ys css)
    (hrx : Rep (fun k => ((P k ∧ k < w.heap.size) ∨ W0.heap.size ≤ k) ∧ (Value.slice aol j ql).ownBlock ≠ some k) WA x cx)
    (hba : Below W1.heap.size W1 WA) (ho : W1.heap[w.heap.size + 2]? = some (obR k is m (mkS t) aol j ql ap l2 q2)) (hg : Grw (fun j => j = w.heap.size + 2) W0 wr) (hb1 : Below wr.heap.size wr W1) (hy : ys.length = j) (ht : xs.take (j + 1) = ys ++ [x])
    (hown2 : V2.ownsRow W0.heap.size 31 6 (.slice (some ⟨g2, 0, none⟩) (j + 1) cap2) (j + 1) (List.flatten css ++ cx)) (hgrow : WA.grownBy V2 (Value.slice aol j ql).ownBlock) (hat : (Value.slice aol j ql).ownBlock = some g2 ∨ g2 = WA.heap.size) (hz : W0.heap.size = w.heap.size + 3) (hwr : W0.heap.size ≤ wr.heap.size) :
    Hid (V2.heap[w.heap.size + 2]? = some (obR k is m (mkS t) aol j ql ap l2 q2)) ∧ Hid (Hid ((V2.setCell ⟨w.heap.size + 2, 4, none⟩ (.slice (some ⟨g2, 0, none⟩) (j + 1) cap2)).heap[w.heap.size + 2]? = some (obR k is m (mkS t) (some ⟨g2, 0, none⟩) (j + 1) cap2 ap l2 q2)) ∧ Hid (RW (fun k => (P k ∧ k < w.heap.size) ∨ W0.heap.size ≤ k) W0.heap.size 31 (.slice (some ⟨g2, 0, none⟩) (j + 1) cap2) (xs.take (j + 1)) (V2.setCell ⟨w.heap.size + 2, 4, none⟩ (.slice (some ⟨g2, 0, none⟩) (j + 1) cap2))) ∧ Hid (Grw (fun j => j = w.heap.size + 2) W0 (V2.setCell ⟨w.heap.size + 2, 4, none⟩ (.slice (some ⟨g2, 0, none⟩) (j + 1) cap2)))) := by
  have hv := World.ownsRow.lt hown
  subst hy
  have hl1 : w.heap.size + 2 < W1.heap.size := (Array.getElem?_eq_some_iff.1 ho).1
  have hl2 := hba.size
  have hV : V2.heap[w.heap.size + 2]? = some (obR k is m (mkS t) aol ys.length ql ap l2 q2) := (hgrow.block _ (by omega) (fun e => by have := (hv _ e.symm).1; omega)).trans ((hba.block _ hl1).trans ho)
  have h1 := gr_one V2 (w.heap.size + 2) 4 (.slice (some ⟨g2, 0, none⟩) (ys.length + 1) cap2)
  have hbw : Below wr.heap.size wr WA := btr hb1 hba
  refine ⟨hV, setR4 hV _ _ _, ?_, ?_⟩
  · show RW _ _ _ _ _ _
    rw [ht]
    exact (RW.snoc hra hrx hown2 hgrow hat).gr h1 (fun k hk e => by rcases hk with h | h <;> omega) (fun k hk e => by omega)
  · have hgr : Grw (fun j => W0.heap.size ≤ j) WA V2 := Grw.of_gb hgrow (fun g e => (hv g e).1)
    exact ((hg.trans (Grw.of_below (X := fun j => wr.heap.size ≤ j) hbw (fun k h _ => h)) (fun j hj e => absurd hj (by omega))).trans hgr (fun j hj e => absurd hj (by omega))).trans h1 (fun j hj e => e)
set_option maxRecDepth 100000 in
set_option maxHeartbeats 4000000 in
theorem plain_step (P : Nat → Prop) (k : Int) (is : Bool) (m : Int) (t : List UInt8) (xs : List JV) (ks : List (List UInt8)) (w : World) (ca : List Value) (h : Rep P w (.mk k is m t xs ks) ca) (hlx : xs.length ≤ 100000)
    (HS : ∀ i (hi : i < xs.length) (Q : Nat → Prop) (W : World) (cb : List Value), Rep Q W xs[i] cb → Calls Tryz.prog 7 #[.agg cb.toArray] W (CuQ xs[i] Q W)) :
    Calls Tryz.prog 7 #[.agg ca.toArray] w (CuQ (.mk k is m t xs ks) P w) := by
  obtain ⟨i0, hi, hz0, hz1, hz2⟩ := info_parts infoR
  obtain ⟨ao, q1, ap, q2, rfl, hka, hla⟩ := rep_c6 h
  have hvs : IsVs (fun k => P k ∧ k < w.heap.size) w (.slice ao xs.length q1) xs := ⟨ao, q1, rfl, fun hne => by
    obtain ⟨g, off, e, hp, hg, hr⟩ := hla hne
    exact ⟨g, off, e, ⟨hp, hg⟩, hg, RepL.mono (fun k hk hl => ⟨hk, hl⟩) xs hr⟩⟩
  have HKS := Lib.hid (RdK.mono (P' := fun k => P k ∧ k < w.heap.size) (fun k hk hl => ⟨hk, hl⟩) hka)
  obtain ⟨W0, hW0, hk0, hk1, hk2, hb0⟩ := three_o w #[.int .i64 k, .bool is, .int .i64 m, .string (mkS t), .slice ao xs.length q1, .slice ap ks.length q2] #[.int .i64 0, .bool false, .int .i64 0, .string ⟨#[]⟩, .slice none 0 0, .slice none 0 0] #[.int .i64 k, .bool is, .int .i64 m, .string (mkS t), .slice none 0 0, .slice ap ks.length q2] 25 31 31
  have HW0 := Lib.hid hW0
  have HB0 := Lib.hid hb0
  have HA := Lib.hid hk0
  have HR := Lib.hid hk1
  have HO := Lib.hid hk2
  have hlt : w.heap.size + 2 < W0.heap.size := (Array.getElem?_eq_some_iff.1 hk2).1
  have hW0s : W0.heap.size = w.heap.size + 3 := by rw [hW0]; simp
  have H := Lib.hid (hvs.keep (Kep.of hb0))
  have HSS := Lib.hid HS
  obtain ⟨a0, a1, a2, a3, a4, a5⟩ := cells6 hk0
  obtain ⟨n, hn⟩ : ∃ n, n = xs.length := ⟨_, rfl⟩
  have HN : Hid (xs.length = n) := hn.symm
  rw [← hn] at a4 H HW0 hlx HA ⊢
  clear hW0 hb0 hk0 hk1 hk2 h hka hla hvs HS hn
  obtain ⟨b0, hb0⟩ : ∃ B, B = (w.alloc (.cells #[.int .i64 k, .bool is, .int .i64 m, .string (mkS t), .slice ao n q1, .slice ap ks.length q2] 25)) := ⟨_, rfl⟩
  go_enter Tryz.func7, Tryz.ntmps7
  go_upto_region 2 with (fail)
  rw [← HW0.out]
  go_wp2
  clear a0 a1 a2 a3 a4 a5 b0 hb0
  go_loopw [20] (fun iv wr => ∃ (j : Nat) (aol : Option Addr) (ql : Nat), j ≤ n ∧ iv = .int .i64 j ∧ Hid (wr.heap[w.heap.size + 2]? = some (obR k is m (mkS t) aol j ql ap ks.length q2)) ∧ Hid (RW (fun k => (P k ∧ k < w.heap.size) ∨ W0.heap.size ≤ k) W0.heap.size 31 (.slice aol j ql) (xs.take j) wr) ∧ Hid (Grw (fun j => j = w.heap.size + 2) W0 wr)) (fun iv _ => n - (intOf iv).toNat)
  case atStart => exact ⟨0, none, 0, by omega, rfl, HO, Lib.hid (by rw [List.take_zero]; exact RW.nil _ _ _ _), Lib.hid (Grw.refl _ _)⟩
  case round =>
    obtain ⟨j, aol, ql, hj, rfl, HOr, HL, HG⟩ := hrel
    have hgs : W0.heap.size ≤ wr.heap.size := HG.out.size
    by_cases hlt2 : j < n
    · have HX1 := Lib.hid (show j < xs.length by rw [HN.out]; exact hlt2)
      have kepG : Kep (fun k => P k ∧ k < w.heap.size) W0 wr := ⟨HG.out.size, fun k hk hl => HG.out.block hl (by have := hk.2; omega)⟩
      obtain ⟨g1, o1, rfl, hg1, hat1⟩ := (H.out.keep kepG).at (by have := HX1.out; omega)
      have hj0 : (0 : Int) ≤ (j : Int) := by omega
      have hjl : (j : Int) < (n : Int) := by omega
      obtain ⟨cb, hcb, hrb⟩ := hat1 j HX1.out
      have HCC := Lib.hid (HSS.out j HX1.out (fun k => P k ∧ k < w.heap.size))
      have HTK : Hid (xs.take (j + 1) = xs.take j ++ [xs[j]'HX1.out]) := List.take_succ_eq_append_getElem HX1.out
      have HYL : Hid ((xs.take j).length = j) := by show _ = _; rw [List.length_take, HN.out]; omega
      obtain ⟨⟨k2, is', nn, t2, ixs, iks⟩, hx⟩ : ∃ x, xs[j]'HX1.out = x := ⟨_, rfl⟩
      rw [hx] at hrb HCC HTK
      obtain ⟨ao', q1', ap', q2', rfl, _⟩ := rep_c6 hrb
      obtain ⟨p0, p1, p2, p3, p4, p5⟩ := cs6 hcb
      obtain ⟨W1, hW1, hk1, hb1⟩ := one_v6 wr k2 is' nn (mkS t2) ao' ixs.length q1' ap' iks.length q2'
      have HW1 := Lib.hid hW1
      have HK1 := Lib.hid hk1
      have HB1 := Lib.hid hb1
      have HO1 : Hid (W1.heap[w.heap.size + 2]? = some (obR k is m (mkS t) aol j ql ap ks.length q2)) := (hb1.block _ (by omega)).trans HOr.out
      have HL1 := Lib.hid (HL.out.go hb1)
      have HRB := Lib.hid (Rep.keep (Kep.of hb1) _ hrb)
      have hn1 : g1 ≠ wr.heap.size := by omega
      have hz2' : wr.heap.size < W1.heap.size := (Array.getElem?_eq_some_iff.1 hk1).1
      have hd1 : Below W1.heap.size W1 W1.drew := (Below.refl _ _).drew
      have hd2 : Below W1.heap.size W1 W1.drew.drew := hd1.drew
      have HC1 := Lib.hid (HCC.out W1.drew _ (Rep.keep (P := fun k => P k ∧ k < w.heap.size) (Kep.of hd1) _ HRB.out))
      have HC2 := Lib.hid (HCC.out W1.drew.drew _ (Rep.keep (P := fun k => P k ∧ k < w.heap.size) (Kep.of hd2) _ HRB.out))
      generalize xs.take j = ys at HL1 HTK HYL
      have HV1 := Lib.hid HL1.out.lt
      unfold CuQ at HC1 HC2
      clear hat1 hcb hrb hx hW1 hk1 hb1 HL kepG hd1 hd2
      go_upto_region 5 with (fail)
      rw [← HW1.out]
      clear p0 p1 p2 p3 p4 p5
      obtain ⟨p0, p1, p2, p3, p4, p5⟩ := cells6 HK1.out
      have o4 := cell_of_row _ _ 4 _ _ _ HO1.out
      have D3 : Hid (j + 1 ≤ maxLen) := by show _ ≤ _; unfold maxLen; omega
      have D4 : Hid ((j + 1) * 88 ≤ 140737488355328) := by show _ ≤ _; omega
      go_region_law (first
        | (go_simp; (with_reducible refine (HC1.out).mono ?_); rintro e w4 ⟨xk, xb, xn, xt, xo, xl, xq, yo, yl, yq, rfl, hr4, hb4⟩; have HO4 : Hid (w4.heap[w.heap.size + 2]? = some (obR k is m (mkS t) aol j ql ap ks.length q2)) := (hb4.block _ (show w.heap.size + 2 < W1.drew.heap.size by show _ < W1.heap.size; omega)).trans HO1.out; obtain ⟨css, HOWN, HRA, HRX, HCE, HBA⟩ := plain_app HL1.out HYL.out hr4 rfl (show Below W1.heap.size W1 w4 from ⟨hb4.os, hb4.tape, hb4.output, hb4.size, hb4.block⟩) hgs hz2' (by omega); have o4 := cell_of_row _ _ 4 _ _ _ HO4.out; have oA : (w4.alloc (.cells #[.int .i64 xk, .bool xb, .int .i64 xn, .string xt, .slice xo xl xq, .slice yo yl yq] 31)).cell? ⟨w.heap.size + 1 + 1, 4, none⟩ = some (.slice aol j ql) := cell_of_row _ _ 4 _ _ _ ((((Below.refl w4.heap.size w4).alloc (Nat.le_refl _) _).block _ (Array.getElem?_eq_some_iff.1 HO4.out).1).trans HO4.out); have DE := Lib.hid (c6_one xk xb xn xt xo xl xq yo yl yq); have D5 : Hid (W0.heap.size ≤ (w4.alloc (obR xk xb xn xt xo xl xq yo yl yq)).heap.size) := (by show _ ≤ _; have := HBA.out.size; omega); clear hr4 hb4)
        | (refine step_append_lies _ rfl _ _ 29 rfl W0.heap.size 31 i0 _ 6 88 Tryz.underlying29 hi hz0 hz1 hz2 rfl (by decide) (.slice aol j ql) j (List.flatten css) rfl HOWN.out ⟨w4.heap.size, 0, none⟩ 1 1 (c6 xk xb xn xt xo xl xq yo yl yq) rfl rfl HCE.out DE.out (by decide) D3.out D4.out D5.out _ rfl ?_; intro g2 cap2 V2 hown2 hgrow2 hat2 hlt9; obtain ⟨HOV, HNX⟩ := plain_nxt HOWN.out HRA.out HRX.out HBA.out HO1.out HG.out HB1.out HYL.out HTK.out hown2 hgrow2 hat2 (by omega) (by omega); have o4 := cell_of_row _ _ 4 _ _ _ HOV.out; have f4 := frz HOV.out 4; clear hown2 hgrow2 hat2 hlt9))
      all_goals
        go_wp2
        go_roundw
        case rel => exact ⟨j + 1, _, _, by omega, by go_num, HNX.out⟩
        case measure => simp [intOf]; omega
    · have hjl : ¬ (j : Int) < (n : Int) := by omega
      have hjn : j = n := by omega
      have hxt : xs.take j = xs := by rw [hjn, ← HN.out]; exact List.take_of_length_le (Nat.le_refl _)
      rw [hxt] at HL
      obtain ⟨hl1, hl2⟩ := HL.out.list
      have hRr := (HG.out.block (Array.getElem?_eq_some_iff.1 HR.out).1 (by omega)).trans HR.out
      have HUr : Hid (Up w wr) := Up.one (Grw.of_below HB0.out (fun k h _ => h)) HG.out (by omega)
      obtain ⟨a0, a1, a2, a3, a4, a5⟩ := cells6 HOr.out
      obtain ⟨u0, u1, u2, u3, u4, u5⟩ := cells6 hRr
      have z0 := frz hRr 0
      have z1 := frz hRr 1
      have z2 := frz hRr 2
      have z3 := frz hRr 3
      have z4 := frz hRr 4
      have z5 := frz hRr 5
      have HH := Lib.hid (set6 hRr (.int .i64 k) (.bool is) (.int .i64 m) (.string (mkS t)) (.slice aol j ql) (.slice ap ks.length q2))
      have HZ := Lib.hid (gr_set6 wr (w.heap.size + 1) (.int .i64 k) (.bool is) (.int .i64 m) (.string (mkS t)) (.slice aol j ql) (.slice ap ks.length q2))
      have HQ := Lib.hid (RdK.keep (P := fun k => P k ∧ k < w.heap.size) ⟨HUr.out.size, fun k hk hl => HUr.out.block hl (by have := hk.2; omega)⟩ HKS.out)
      have HX : Hid (xs ≠ [] → ∃ g off, aol = some ⟨g, off, none⟩ ∧ ((P g ∧ g < w.heap.size) ∨ w.heap.size + 2 ≤ g) ∧ g < wr.heap.size ∧ RepL (fun k => (P k ∧ k < w.heap.size) ∨ w.heap.size + 2 ≤ k) wr xs g off) := fun hne => by
        obtain ⟨g, off, e, hg, hlt', hr⟩ := hl2 hne
        refine ⟨g, off, e, ?_, hlt', RepL.mono (fun k hk _ => ?_) _ hr⟩
        · rcases hg with (h | h) | h
          · exact .inl h
          · exact .inr (by omega)
          · exact .inr (by omega)
        · rcases hk with (h | h) | h
          · exact .inl h
          · exact .inr (by omega)
          · exact .inr (by omega)
      have HJ := Lib.hid hl1
      clear hl1 hl2 hRr hxt hjn HL
      go_wp2_with fail
      obtain ⟨d0, d1, d2, d3, d4, d5⟩ := cells6 HH.out
      clear u0 u1 u2 u3 u4 u5 z0 z1 z2 z3 z4 z5 a0 a1 a2 a3 a4 a5
      (with_reducible refine bodyPost_ret (v := .agg #[.int .i64 k, .bool is, .int .i64 m, .string (mkS t), .slice aol j ql, .slice ap ks.length q2]) (by simp [results, Tryz.results7, go_sem, d0, d1, d2, d3, d4, d5]) rfl ?_)
      exact CuQ.weak (cu_fin HUr.out HZ.out HJ.out HX.out (RdK.mono (fun k hk _ => ⟨hk, hk.2⟩) HQ.out) (fun k hk => hk.2))
theorem plain_all : ∀ (d : Nat) (x : JV), SizeOf.sizeOf x ≤ d → wid x ≤ 100000 → ∀ (P : Nat → Prop) (W : World) (ca : List Value), Rep P W x ca → Calls Tryz.prog 7 #[.agg ca.toArray] W (CuQ x P W)
  | 0, .mk k is m t xs ks, hd, hw, P, W, ca, h => by rw [JV.mk.sizeOf_spec] at hd; omega
  | d + 1, .mk k is m t xs ks, hd, hw, P, W, ca, h => plain_step P k is m t xs ks W ca h (by rw [wid] at hw; omega) (fun i hi Q V cb hr =>
    plain_all d xs[i] (by have := List.sizeOf_lt_of_mem (List.getElem_mem hi); rw [JV.mk.sizeOf_spec] at hd; omega) (by rw [wid] at hw; have := wid_mem hi; omega) Q V cb hr)
theorem Plain_c {P : Nat → Prop} {x : JV} {W : World} {ca : List Value} (h : Rep P W x ca) (hw : wid x ≤ 100000) : Calls Tryz.prog 7 #[.agg ca.toArray] W (CuQ x P W) := plain_all _ x (Nat.le_refl _) hw P W ca h
end Go.Proofs.YtpgllcdcpdeicaaGreatDoor.Jv
namespace Go.Proofs.YtpgllcdcpdeicaaGreatDoor.Jv
open Jt
open Go.RowKit Go.ChangeMaps Go.MapKept Go.WideMaps
set_option linter.unusedSimpArgs false
set_option linter.unusedVariables false

set_option maxRecDepth 100000 in
set_option maxHeartbeats 4000000 in
theorem sr_ne (k k' : Int) (is : Bool) (n : Int) (tx : ByteArray) (ao : Option Addr) (l1 q1 : Nat) (ap : Option Addr) (l2 q2 : Nat) (is' : Bool) (n' : Int) (tx' : ByteArray) (ao' : Option Addr) (l1' q1' : Nat) (ap' : Option Addr) (l2' q2' : Nat) (w : World) (he : k ≠ k') :
    Calls Tryz.prog 6 #[.agg #[.int .i64 k, .bool is, .int .i64 n, .string tx, .slice ao l1 q1, .slice ap l2 q2], .agg #[.int .i64 k', .bool is', .int .i64 n', .string tx', .slice ao' l1' q1', .slice ap' l2' q2']] w (SmQ false w) := by
  obtain ⟨W0, hW0, hk0, hk1, hb0⟩ := two_o w #[.int .i64 k, .bool is, .int .i64 n, .string tx, .slice ao l1 q1, .slice ap l2 q2] #[.int .i64 k', .bool is', .int .i64 n', .string tx', .slice ao' l1' q1', .slice ap' l2' q2'] 31 31
  have HW0 := Lib.hid hW0
  have HB0 := Lib.hid hb0
  have HA0 := Lib.hid hk0
  have HA1 := Lib.hid hk1
  obtain ⟨a0, a1, a2, a3, a4, a5⟩ := cells6 hk0
  obtain ⟨c0, c1, c2, c3, c4, c5⟩ := cells6 hk1
  have e1 : (k == k') = false := by simpa using he
  have e2 : (k != k') = true := by rw [bne, e1]; rfl
  clear he
  clear hW0 hb0 hk0 hk1
  go_enter Tryz.func6, Tryz.ntmps6
  go_upto_region 1 with (fail)
  rw [← HW0.out]
  go_wp2
  go_ret
  exact ⟨rfl, HB0.out⟩
set_option maxRecDepth 100000 in
set_option maxHeartbeats 4000000 in
theorem sr_1f (is : Bool) (n : Int) (tx : ByteArray) (ao : Option Addr) (l1 q1 : Nat) (ap : Option Addr) (l2 q2 : Nat) (is' : Bool) (n' : Int) (tx' : ByteArray) (ao' : Option Addr) (l1' q1' : Nat) (ap' : Option Addr) (l2' q2' : Nat) (w : World) (he : ¬ is = is') :
    Calls Tryz.prog 6 #[.agg #[.int .i64 1, .bool is, .int .i64 n, .string tx, .slice ao l1 q1, .slice ap l2 q2], .agg #[.int .i64 1, .bool is', .int .i64 n', .string tx', .slice ao' l1' q1', .slice ap' l2' q2']] w (SmQ false w) := by
  obtain ⟨W0, hW0, hk0, hk1, hb0⟩ := two_o w #[.int .i64 1, .bool is, .int .i64 n, .string tx, .slice ao l1 q1, .slice ap l2 q2] #[.int .i64 1, .bool is', .int .i64 n', .string tx', .slice ao' l1' q1', .slice ap' l2' q2'] 31 31
  have HW0 := Lib.hid hW0
  have HB0 := Lib.hid hb0
  have HA0 := Lib.hid hk0
  have HA1 := Lib.hid hk1
  obtain ⟨a0, a1, a2, a3, a4, a5⟩ := cells6 hk0
  obtain ⟨c0, c1, c2, c3, c4, c5⟩ := cells6 hk1
  have e1 : (is == is') = false := by simpa using he
  have e2 : (is != is') = true := by rw [bne, e1]; rfl
  clear he
  clear hW0 hb0 hk0 hk1
  go_enter Tryz.func6, Tryz.ntmps6
  go_upto_region 1 with (fail)
  rw [← HW0.out]
  go_wp2
  go_ret
  exact ⟨rfl, HB0.out⟩
set_option maxRecDepth 100000 in
set_option maxHeartbeats 4000000 in
theorem sr_1t (is : Bool) (n : Int) (tx : ByteArray) (ao : Option Addr) (l1 q1 : Nat) (ap : Option Addr) (l2 q2 : Nat) (is' : Bool) (n' : Int) (tx' : ByteArray) (ao' : Option Addr) (l1' q1' : Nat) (ap' : Option Addr) (l2' q2' : Nat) (w : World) (he : is = is') :
    Calls Tryz.prog 6 #[.agg #[.int .i64 1, .bool is, .int .i64 n, .string tx, .slice ao l1 q1, .slice ap l2 q2], .agg #[.int .i64 1, .bool is', .int .i64 n', .string tx', .slice ao' l1' q1', .slice ap' l2' q2']] w (SmQ true w) := by
  obtain ⟨W0, hW0, hk0, hk1, hb0⟩ := two_o w #[.int .i64 1, .bool is, .int .i64 n, .string tx, .slice ao l1 q1, .slice ap l2 q2] #[.int .i64 1, .bool is', .int .i64 n', .string tx', .slice ao' l1' q1', .slice ap' l2' q2'] 31 31
  have HW0 := Lib.hid hW0
  have HB0 := Lib.hid hb0
  have HA0 := Lib.hid hk0
  have HA1 := Lib.hid hk1
  obtain ⟨a0, a1, a2, a3, a4, a5⟩ := cells6 hk0
  obtain ⟨c0, c1, c2, c3, c4, c5⟩ := cells6 hk1
  have e1 : (is == is') = true := by simpa using he
  have e2 : (is != is') = false := by rw [bne, e1]; rfl
  clear he
  clear hW0 hb0 hk0 hk1
  go_enter Tryz.func6, Tryz.ntmps6
  go_upto_region 1 with (fail)
  rw [← HW0.out]
  go_wp2
  go_ret
  exact ⟨rfl, HB0.out⟩
set_option maxRecDepth 100000 in
set_option maxHeartbeats 4000000 in
theorem sr_2f (is : Bool) (n : Int) (tx : ByteArray) (ao : Option Addr) (l1 q1 : Nat) (ap : Option Addr) (l2 q2 : Nat) (is' : Bool) (n' : Int) (tx' : ByteArray) (ao' : Option Addr) (l1' q1' : Nat) (ap' : Option Addr) (l2' q2' : Nat) (w : World) (he : ¬ n = n') :
    Calls Tryz.prog 6 #[.agg #[.int .i64 2, .bool is, .int .i64 n, .string tx, .slice ao l1 q1, .slice ap l2 q2], .agg #[.int .i64 2, .bool is', .int .i64 n', .string tx', .slice ao' l1' q1', .slice ap' l2' q2']] w (SmQ false w) := by
  obtain ⟨W0, hW0, hk0, hk1, hb0⟩ := two_o w #[.int .i64 2, .bool is, .int .i64 n, .string tx, .slice ao l1 q1, .slice ap l2 q2] #[.int .i64 2, .bool is', .int .i64 n', .string tx', .slice ao' l1' q1', .slice ap' l2' q2'] 31 31
  have HW0 := Lib.hid hW0
  have HB0 := Lib.hid hb0
  have HA0 := Lib.hid hk0
  have HA1 := Lib.hid hk1
  obtain ⟨a0, a1, a2, a3, a4, a5⟩ := cells6 hk0
  obtain ⟨c0, c1, c2, c3, c4, c5⟩ := cells6 hk1
  have e1 : (n == n') = false := by simpa using he
  have e2 : (n != n') = true := by rw [bne, e1]; rfl
  clear he
  clear hW0 hb0 hk0 hk1
  go_enter Tryz.func6, Tryz.ntmps6
  go_upto_region 1 with (fail)
  rw [← HW0.out]
  go_wp2
  go_ret
  exact ⟨rfl, HB0.out⟩
set_option maxRecDepth 100000 in
set_option maxHeartbeats 4000000 in
theorem sr_2t (is : Bool) (n : Int) (tx : ByteArray) (ao : Option Addr) (l1 q1 : Nat) (ap : Option Addr) (l2 q2 : Nat) (is' : Bool) (n' : Int) (tx' : ByteArray) (ao' : Option Addr) (l1' q1' : Nat) (ap' : Option Addr) (l2' q2' : Nat) (w : World) (he : n = n') :
    Calls Tryz.prog 6 #[.agg #[.int .i64 2, .bool is, .int .i64 n, .string tx, .slice ao l1 q1, .slice ap l2 q2], .agg #[.int .i64 2, .bool is', .int .i64 n', .string tx', .slice ao' l1' q1', .slice ap' l2' q2']] w (SmQ true w) := by
  obtain ⟨W0, hW0, hk0, hk1, hb0⟩ := two_o w #[.int .i64 2, .bool is, .int .i64 n, .string tx, .slice ao l1 q1, .slice ap l2 q2] #[.int .i64 2, .bool is', .int .i64 n', .string tx', .slice ao' l1' q1', .slice ap' l2' q2'] 31 31
  have HW0 := Lib.hid hW0
  have HB0 := Lib.hid hb0
  have HA0 := Lib.hid hk0
  have HA1 := Lib.hid hk1
  obtain ⟨a0, a1, a2, a3, a4, a5⟩ := cells6 hk0
  obtain ⟨c0, c1, c2, c3, c4, c5⟩ := cells6 hk1
  have e1 : (n == n') = true := by simpa using he
  have e2 : (n != n') = false := by rw [bne, e1]; rfl
  clear he
  clear hW0 hb0 hk0 hk1
  go_enter Tryz.func6, Tryz.ntmps6
  go_upto_region 1 with (fail)
  rw [← HW0.out]
  go_wp2
  go_ret
  exact ⟨rfl, HB0.out⟩
set_option maxRecDepth 100000 in
set_option maxHeartbeats 4000000 in
theorem sr_3f (is : Bool) (n : Int) (tx : ByteArray) (ao : Option Addr) (l1 q1 : Nat) (ap : Option Addr) (l2 q2 : Nat) (is' : Bool) (n' : Int) (tx' : ByteArray) (ao' : Option Addr) (l1' q1' : Nat) (ap' : Option Addr) (l2' q2' : Nat) (w : World) (e1 : (tx.toList == tx'.toList) = false) :
    Calls Tryz.prog 6 #[.agg #[.int .i64 3, .bool is, .int .i64 n, .string tx, .slice ao l1 q1, .slice ap l2 q2], .agg #[.int .i64 3, .bool is', .int .i64 n', .string tx', .slice ao' l1' q1', .slice ap' l2' q2']] w (SmQ false w) := by
  obtain ⟨W0, hW0, hk0, hk1, hb0⟩ := two_o w #[.int .i64 3, .bool is, .int .i64 n, .string tx, .slice ao l1 q1, .slice ap l2 q2] #[.int .i64 3, .bool is', .int .i64 n', .string tx', .slice ao' l1' q1', .slice ap' l2' q2'] 31 31
  have HW0 := Lib.hid hW0
  have HB0 := Lib.hid hb0
  have HA0 := Lib.hid hk0
  have HA1 := Lib.hid hk1
  obtain ⟨a0, a1, a2, a3, a4, a5⟩ := cells6 hk0
  obtain ⟨c0, c1, c2, c3, c4, c5⟩ := cells6 hk1
  have e2 : (tx.toList != tx'.toList) = true := by rw [bne, e1]; rfl
  clear hW0 hb0 hk0 hk1
  go_enter Tryz.func6, Tryz.ntmps6
  go_upto_region 1 with (fail)
  rw [← HW0.out]
  go_wp2
  go_ret
  exact ⟨rfl, HB0.out⟩
set_option maxRecDepth 100000 in
set_option maxHeartbeats 4000000 in
theorem sr_3t (is : Bool) (n : Int) (tx : ByteArray) (ao : Option Addr) (l1 q1 : Nat) (ap : Option Addr) (l2 q2 : Nat) (is' : Bool) (n' : Int) (tx' : ByteArray) (ao' : Option Addr) (l1' q1' : Nat) (ap' : Option Addr) (l2' q2' : Nat) (w : World) (e1 : (tx.toList == tx'.toList) = true) :
    Calls Tryz.prog 6 #[.agg #[.int .i64 3, .bool is, .int .i64 n, .string tx, .slice ao l1 q1, .slice ap l2 q2], .agg #[.int .i64 3, .bool is', .int .i64 n', .string tx', .slice ao' l1' q1', .slice ap' l2' q2']] w (SmQ true w) := by
  obtain ⟨W0, hW0, hk0, hk1, hb0⟩ := two_o w #[.int .i64 3, .bool is, .int .i64 n, .string tx, .slice ao l1 q1, .slice ap l2 q2] #[.int .i64 3, .bool is', .int .i64 n', .string tx', .slice ao' l1' q1', .slice ap' l2' q2'] 31 31
  have HW0 := Lib.hid hW0
  have HB0 := Lib.hid hb0
  have HA0 := Lib.hid hk0
  have HA1 := Lib.hid hk1
  obtain ⟨a0, a1, a2, a3, a4, a5⟩ := cells6 hk0
  obtain ⟨c0, c1, c2, c3, c4, c5⟩ := cells6 hk1
  have e2 : (tx.toList != tx'.toList) = false := by rw [bne, e1]; rfl
  clear hW0 hb0 hk0 hk1
  go_enter Tryz.func6, Tryz.ntmps6
  go_upto_region 1 with (fail)
  rw [← HW0.out]
  go_wp2
  go_ret
  exact ⟨rfl, HB0.out⟩
set_option maxRecDepth 100000 in
set_option maxHeartbeats 4000000 in
theorem sr_o (k : Int) (is : Bool) (n : Int) (tx : ByteArray) (ao : Option Addr) (l1 q1 : Nat) (ap : Option Addr) (l2 q2 : Nat) (is' : Bool) (n' : Int) (tx' : ByteArray) (ao' : Option Addr) (l1' q1' : Nat) (ap' : Option Addr) (l2' q2' : Nat) (w : World) (hk : k ≠ 1 ∧ k ≠ 2 ∧ k ≠ 3 ∧ k ≠ 5 ∧ k ≠ 4) :
    Calls Tryz.prog 6 #[.agg #[.int .i64 k, .bool is, .int .i64 n, .string tx, .slice ao l1 q1, .slice ap l2 q2], .agg #[.int .i64 k, .bool is', .int .i64 n', .string tx', .slice ao' l1' q1', .slice ap' l2' q2']] w (SmQ true w) := by
  obtain ⟨W0, hW0, hk0, hk1, hb0⟩ := two_o w #[.int .i64 k, .bool is, .int .i64 n, .string tx, .slice ao l1 q1, .slice ap l2 q2] #[.int .i64 k, .bool is', .int .i64 n', .string tx', .slice ao' l1' q1', .slice ap' l2' q2'] 31 31
  have HW0 := Lib.hid hW0
  have HB0 := Lib.hid hb0
  have HA0 := Lib.hid hk0
  have HA1 := Lib.hid hk1
  obtain ⟨a0, a1, a2, a3, a4, a5⟩ := cells6 hk0
  obtain ⟨c0, c1, c2, c3, c4, c5⟩ := cells6 hk1
  obtain ⟨h1, h2, h3, h4, h5⟩ := hk
  have e1 : (k == 1) = false := by simpa using h1
  have e2 : (k == 2) = false := by simpa using h2
  have e3 : (k == 3) = false := by simpa using h3
  have e4 : (k == 5) = false := by simpa using h4
  have e5 : (k == 4) = false := by simpa using h5
  have g4 : (k != 5) = true := by rw [bne, e4]; rfl
  have g5 : (k != 4) = true := by rw [bne, e5]; rfl
  clear h1 h2 h3 h4 h5
  clear hW0 hb0 hk0 hk1
  go_enter Tryz.func6, Tryz.ntmps6
  go_upto_region 1 with (fail)
  rw [← HW0.out]
  go_wp2
  go_ret
  exact ⟨rfl, HB0.out⟩
set_option maxRecDepth 100000 in
set_option maxHeartbeats 4000000 in
theorem sr_4n (is : Bool) (n : Int) (tx : ByteArray) (ao : Option Addr) (l1 q1 : Nat) (ap : Option Addr) (l2 q2 : Nat) (is' : Bool) (n' : Int) (tx' : ByteArray) (ao' : Option Addr) (l1' q1' : Nat) (ap' : Option Addr) (l2' q2' : Nat) (w : World) (he : l1 ≠ l1') :
    Calls Tryz.prog 6 #[.agg #[.int .i64 4, .bool is, .int .i64 n, .string tx, .slice ao l1 q1, .slice ap l2 q2], .agg #[.int .i64 4, .bool is', .int .i64 n', .string tx', .slice ao' l1' q1', .slice ap' l2' q2']] w (SmQ false w) := by
  obtain ⟨W0, hW0, hk0, hk1, hb0⟩ := two_o w #[.int .i64 4, .bool is, .int .i64 n, .string tx, .slice ao l1 q1, .slice ap l2 q2] #[.int .i64 4, .bool is', .int .i64 n', .string tx', .slice ao' l1' q1', .slice ap' l2' q2'] 31 31
  have HW0 := Lib.hid hW0
  have HB0 := Lib.hid hb0
  have HA0 := Lib.hid hk0
  have HA1 := Lib.hid hk1
  obtain ⟨a0, a1, a2, a3, a4, a5⟩ := cells6 hk0
  obtain ⟨c0, c1, c2, c3, c4, c5⟩ := cells6 hk1
  have r1 : ((l1 : Int) == (l1' : Int)) = false := by simpa using (by omega : ¬ (l1 : Int) = (l1' : Int))
  have r2 : ((l1 : Int) != (l1' : Int)) = true := by rw [bne, r1]; rfl
  clear hW0 hb0 hk0 hk1
  go_enter Tryz.func6, Tryz.ntmps6
  go_upto_region 1 with (fail)
  rw [← HW0.out]
  go_wp2
  go_ret
  exact ⟨rfl, HB0.out⟩
set_option maxRecDepth 100000 in
set_option maxHeartbeats 4000000 in
theorem sr_5n (is : Bool) (n : Int) (tx : ByteArray) (ao : Option Addr) (l1 q1 : Nat) (ap : Option Addr) (l2 q2 : Nat) (is' : Bool) (n' : Int) (tx' : ByteArray) (ao' : Option Addr) (l1' q1' : Nat) (ap' : Option Addr) (l2' q2' : Nat) (w : World) (he : l1 ≠ l1') :
    Calls Tryz.prog 6 #[.agg #[.int .i64 5, .bool is, .int .i64 n, .string tx, .slice ao l1 q1, .slice ap l2 q2], .agg #[.int .i64 5, .bool is', .int .i64 n', .string tx', .slice ao' l1' q1', .slice ap' l2' q2']] w (SmQ false w) := by
  obtain ⟨W0, hW0, hk0, hk1, hb0⟩ := two_o w #[.int .i64 5, .bool is, .int .i64 n, .string tx, .slice ao l1 q1, .slice ap l2 q2] #[.int .i64 5, .bool is', .int .i64 n', .string tx', .slice ao' l1' q1', .slice ap' l2' q2'] 31 31
  have HW0 := Lib.hid hW0
  have HB0 := Lib.hid hb0
  have HA0 := Lib.hid hk0
  have HA1 := Lib.hid hk1
  obtain ⟨a0, a1, a2, a3, a4, a5⟩ := cells6 hk0
  obtain ⟨c0, c1, c2, c3, c4, c5⟩ := cells6 hk1
  have r1 : ((l1 : Int) == (l1' : Int)) = false := by simpa using (by omega : ¬ (l1 : Int) = (l1' : Int))
  have r2 : ((l1 : Int) != (l1' : Int)) = true := by rw [bne, r1]; rfl
  clear hW0 hb0 hk0 hk1
  go_enter Tryz.func6, Tryz.ntmps6
  go_upto_region 1 with (fail)
  rw [← HW0.out]
  go_wp2
  go_ret
  exact ⟨rfl, HB0.out⟩
set_option maxRecDepth 100000 in
set_option maxHeartbeats 4000000 in
theorem sr_5k (is : Bool) (n : Int) (tx : ByteArray) (ao : Option Addr) (l1 q1 : Nat) (ap : Option Addr) (l2 q2 : Nat) (is' : Bool) (n' : Int) (tx' : ByteArray) (ao' : Option Addr) (l1' q1' : Nat) (ap' : Option Addr) (l2' q2' : Nat) (w : World) (hl : l1 = l1') (he : l2 ≠ l2') :
    Calls Tryz.prog 6 #[.agg #[.int .i64 5, .bool is, .int .i64 n, .string tx, .slice ao l1 q1, .slice ap l2 q2], .agg #[.int .i64 5, .bool is', .int .i64 n', .string tx', .slice ao' l1' q1', .slice ap' l2' q2']] w (SmQ false w) := by
  subst hl
  obtain ⟨W0, hW0, hk0, hk1, hb0⟩ := two_o w #[.int .i64 5, .bool is, .int .i64 n, .string tx, .slice ao l1 q1, .slice ap l2 q2] #[.int .i64 5, .bool is', .int .i64 n', .string tx', .slice ao' l1 q1', .slice ap' l2' q2'] 31 31
  have HW0 := Lib.hid hW0
  have HB0 := Lib.hid hb0
  have HA0 := Lib.hid hk0
  have HA1 := Lib.hid hk1
  obtain ⟨a0, a1, a2, a3, a4, a5⟩ := cells6 hk0
  obtain ⟨c0, c1, c2, c3, c4, c5⟩ := cells6 hk1
  have r1 : ((l2 : Int) == (l2' : Int)) = false := by simpa using (by omega : ¬ (l2 : Int) = (l2' : Int))
  have r2 : ((l2 : Int) != (l2' : Int)) = true := by rw [bne, r1]; rfl
  clear hW0 hb0 hk0 hk1
  go_enter Tryz.func6, Tryz.ntmps6
  go_upto_region 1 with (fail)
  rw [← HW0.out]
  go_wp2
  go_ret
  exact ⟨rfl, HB0.out⟩
set_option maxRecDepth 100000 in
set_option maxHeartbeats 4000000 in
theorem sr_4 (P Q : Nat → Prop) (xs ys : List JV) (l2 l2' : Nat) (is : Bool) (n : Int) (tx : ByteArray) (ao : Option Addr) (q1 : Nat) (ap : Option Addr) (q2 : Nat) (is' : Bool) (n' : Int) (tx' : ByteArray) (ao' : Option Addr) (q1' : Nat) (ap' : Option Addr) (q2' : Nat) (w : World)
    (h1 : IsVs P w (.slice ao xs.length q1) xs) (h2 : IsVs Q w (.slice ao' ys.length q1') ys) (hl : xs.length = ys.length) (hx : xs.length ≤ 1000000) (hk : l2 ≤ 1000000)
    (HS : ∀ i (hi : i < xs.length) (hj : i < ys.length) (W : World) (ca cb : List Value), Rep P W xs[i] ca → Rep Q W ys[i] cb → Calls Tryz.prog 6 #[.agg ca.toArray, .agg cb.toArray] W (SmQ (smJ xs[i] ys[i]) W)) :
    Calls Tryz.prog 6 #[.agg #[.int .i64 4, .bool is, .int .i64 n, .string tx, .slice ao xs.length q1, .slice ap l2 q2], .agg #[.int .i64 4, .bool is', .int .i64 n', .string tx', .slice ao' ys.length q1', .slice ap' l2' q2']] w (SmQ (smL xs ys) w) := by
  obtain ⟨n0, hn0⟩ : ∃ n0, n0 = xs.length := ⟨_, rfl⟩
  have HN : Hid (xs.length = n0 ∧ ys.length = n0) := ⟨hn0.symm, by omega⟩
  have hx0 : n0 ≤ 1000000 := by omega
  rw [← hl, ← hn0]
  rw [HN.out.1] at h1
  rw [HN.out.2] at h2
  obtain ⟨W0, hW0, hk0', hk1, hb0⟩ := two_o w #[.int .i64 4, .bool is, .int .i64 n, .string tx, .slice ao n0 q1, .slice ap l2 q2] #[.int .i64 4, .bool is', .int .i64 n', .string tx', .slice ao' n0 q1', .slice ap' l2' q2'] 31 31
  have HW0 := Lib.hid hW0
  have HB0 := Lib.hid hb0
  have HA0 := Lib.hid hk0'
  have HA1 := Lib.hid hk1
  have hsz : W0.heap.size = w.heap.size + 2 := by rw [hW0]; simp
  obtain ⟨a0, a1, a2, a3, a4, a5⟩ := cells6 hk0'
  obtain ⟨c0, c1, c2, c3, c4, c5⟩ := cells6 hk1
  have H1 := Lib.hid (h1.keep (Kep.of hb0))
  have H2 := Lib.hid (h2.keep (Kep.of hb0))
  have HSS := Lib.hid HS
  clear hW0 hb0 hk0' hk1 HS h1 h2 hl hx hn0
  go_enter Tryz.func6, Tryz.ntmps6
  go_upto_region 1 with (fail)
  rw [← HW0.out]
  go_wp2
  clear a0 a1 a2 a3 a4 a5 c0 c1 c2 c3 c4 c5
  go_loopw [80] (fun iv wr => ∃ j : Nat, j ≤ n0 ∧ iv = .int .i64 j ∧ Hid (smL (xs.take j) (ys.take j) = true) ∧ Hid (Below W0.heap.size W0 wr)) (fun iv _ => n0 - (intOf iv).toNat)
  case atStart => exact ⟨0, by omega, rfl, Lib.hid (by simp [smL]), Lib.hid (Below.refl _ _)⟩
  case round =>
    obtain ⟨j, hj, rfl, HT, HB⟩ := hrel
    have k4 : wr.cell? ⟨w.heap.size, 4, none⟩ = some (.slice ao n0 q1) := cell_of_row _ _ 4 _ _ _ ((HB.out.block _ (Array.getElem?_eq_some_iff.1 HA0.out).1).trans HA0.out)
    have k5 : wr.cell? ⟨w.heap.size, 5, none⟩ = some (.slice ap l2 q2) := cell_of_row _ _ 5 _ _ _ ((HB.out.block _ (Array.getElem?_eq_some_iff.1 HA0.out).1).trans HA0.out)
    have l4 : wr.cell? ⟨w.heap.size + 1, 4, none⟩ = some (.slice ao' n0 q1') := cell_of_row _ _ 4 _ _ _ ((HB.out.block _ (Array.getElem?_eq_some_iff.1 HA1.out).1).trans HA1.out)
    have hws := HB.out.size
    by_cases hlt : j < n0
    · have HX1 := Lib.hid (show j < xs.length by rw [HN.out.1]; exact hlt)
      have HY1 := Lib.hid (show j < ys.length by rw [HN.out.2]; exact hlt)
      obtain ⟨g1, o1, rfl, hg1, hat1⟩ := (H1.out.keep (Kep.of HB.out)).at (by have := HX1.out; omega)
      obtain ⟨g2, o2, rfl, hg2, hat2⟩ := (H2.out.keep (Kep.of HB.out)).at (by have := HY1.out; omega)
      have hj0 : (0 : Int) ≤ (j : Int) := by omega
      have hjl : (j : Int) < (n0 : Int) := by omega
      obtain ⟨ca, hca, hra⟩ := hat1 j HX1.out
      obtain ⟨cb, hcb, hrb⟩ := hat2 j HY1.out
      have HTS : Hid (smL (xs.take (j + 1)) (ys.take (j + 1)) = smJ (xs[j]'HX1.out) (ys[j]'HY1.out)) := by
        show _ = _
        rw [List.take_succ_eq_append_getElem HX1.out, List.take_succ_eq_append_getElem HY1.out, smL_snoc _ _ (by rw [List.length_take, List.length_take, HN.out.1, HN.out.2]), HT.out, Bool.true_and]
      have HPF := Lib.hid (smL_pre HX1.out HY1.out)
      obtain ⟨⟨xk, xi, xn, xt, ixs, iks⟩, hx⟩ : ∃ x, xs[j]'HX1.out = x := ⟨_, rfl⟩
      obtain ⟨⟨yk, yi, yn, yt, iys, jks⟩, hy⟩ : ∃ y, ys[j]'HY1.out = y := ⟨_, rfl⟩
      have HCC := Lib.hid (fun W => HSS.out j HX1.out HY1.out W)
      rw [hx] at hra
      rw [hy] at hrb
      rw [hx, hy] at HTS HPF
      rw [hx, hy] at HCC
      obtain ⟨xo, xq, xp, xr, rfl, _⟩ := rep_c6 hra
      obtain ⟨yo, yq, yp, yr, rfl, _⟩ := rep_c6 hrb
      obtain ⟨p0, p1, p2, p3, p4, p5⟩ := cs6 hca
      obtain ⟨r0, r1, r2, r3, r4, r5⟩ := cs6 hcb
      have hd1 : Below wr.heap.size wr wr.drew := (Below.refl _ _).drew
      have HCS := Lib.hid (HCC.out wr.drew _ _ (Rep.keep (Kep.of hd1) _ hra) (Rep.keep (Kep.of hd1) _ hrb))
      have HSK : Hid (∀ V : World, Below wr.heap.size wr V → V.cell? ⟨w.heap.size, 4, none⟩ = some (.slice (some ⟨g1, o1, none⟩) n0 q1) ∧ V.cell? ⟨w.heap.size + 1, 4, none⟩ = some (.slice (some ⟨g2, o2, none⟩) n0 q1') ∧ V.cell? ⟨g1, o1 + j * 6, none⟩ = some (.int .i64 xk) ∧ V.cell? ⟨g1, o1 + j * 6 + 1, none⟩ = some (.bool xi) ∧ V.cell? ⟨g1, o1 + j * 6 + 2, none⟩ = some (.int .i64 xn) ∧ V.cell? ⟨g1, o1 + j * 6 + 3, none⟩ = some (.string (mkS xt)) ∧ V.cell? ⟨g1, o1 + j * 6 + 4, none⟩ = some (.slice xo ixs.length xq) ∧ V.cell? ⟨g1, o1 + j * 6 + 5, none⟩ = some (.slice xp iks.length xr) ∧ V.cell? ⟨g2, o2 + j * 6, none⟩ = some (.int .i64 yk) ∧ V.cell? ⟨g2, o2 + j * 6 + 1, none⟩ = some (.bool yi) ∧ V.cell? ⟨g2, o2 + j * 6 + 2, none⟩ = some (.int .i64 yn) ∧ V.cell? ⟨g2, o2 + j * 6 + 3, none⟩ = some (.string (mkS yt)) ∧ V.cell? ⟨g2, o2 + j * 6 + 4, none⟩ = some (.slice yo iys.length yq) ∧ V.cell? ⟨g2, o2 + j * 6 + 5, none⟩ = some (.slice yp jks.length yr)) := fun V hV => ⟨(hV.cell (p := ⟨w.heap.size, 4, none⟩) (show w.heap.size < _ by omega)).trans k4, (hV.cell (p := ⟨w.heap.size + 1, 4, none⟩) (show w.heap.size + 1 < _ by omega)).trans l4, (hV.cell (p := ⟨g1, _, none⟩) hg1).trans p0, (hV.cell (p := ⟨g1, _, none⟩) hg1).trans p1, (hV.cell (p := ⟨g1, _, none⟩) hg1).trans p2, (hV.cell (p := ⟨g1, _, none⟩) hg1).trans p3, (hV.cell (p := ⟨g1, _, none⟩) hg1).trans p4, (hV.cell (p := ⟨g1, _, none⟩) hg1).trans p5, (hV.cell (p := ⟨g2, _, none⟩) hg2).trans r0, (hV.cell (p := ⟨g2, _, none⟩) hg2).trans r1, (hV.cell (p := ⟨g2, _, none⟩) hg2).trans r2, (hV.cell (p := ⟨g2, _, none⟩) hg2).trans r3, (hV.cell (p := ⟨g2, _, none⟩) hg2).trans r4, (hV.cell (p := ⟨g2, _, none⟩) hg2).trans r5⟩
      have HS0 : Hid (wr.cell? ⟨w.heap.size, 4, none⟩ = some (.slice (some ⟨g1, o1, none⟩) n0 q1) ∧ wr.cell? ⟨w.heap.size + 1, 4, none⟩ = some (.slice (some ⟨g2, o2, none⟩) n0 q1') ∧ wr.cell? ⟨g1, o1 + j * 6, none⟩ = some (.int .i64 xk) ∧ wr.cell? ⟨g1, o1 + j * 6 + 1, none⟩ = some (.bool xi) ∧ wr.cell? ⟨g1, o1 + j * 6 + 2, none⟩ = some (.int .i64 xn) ∧ wr.cell? ⟨g1, o1 + j * 6 + 3, none⟩ = some (.string (mkS xt)) ∧ wr.cell? ⟨g1, o1 + j * 6 + 4, none⟩ = some (.slice xo ixs.length xq) ∧ wr.cell? ⟨g1, o1 + j * 6 + 5, none⟩ = some (.slice xp iks.length xr) ∧ wr.cell? ⟨g2, o2 + j * 6, none⟩ = some (.int .i64 yk) ∧ wr.cell? ⟨g2, o2 + j * 6 + 1, none⟩ = some (.bool yi) ∧ wr.cell? ⟨g2, o2 + j * 6 + 2, none⟩ = some (.int .i64 yn) ∧ wr.cell? ⟨g2, o2 + j * 6 + 3, none⟩ = some (.string (mkS yt)) ∧ wr.cell? ⟨g2, o2 + j * 6 + 4, none⟩ = some (.slice yo iys.length yq) ∧ wr.cell? ⟨g2, o2 + j * 6 + 5, none⟩ = some (.slice yp jks.length yr)) := HSK.out wr (Below.refl _ _)
      have HSD : Hid (wr.drew.cell? ⟨w.heap.size, 4, none⟩ = some (.slice (some ⟨g1, o1, none⟩) n0 q1) ∧ wr.drew.cell? ⟨w.heap.size + 1, 4, none⟩ = some (.slice (some ⟨g2, o2, none⟩) n0 q1') ∧ wr.drew.cell? ⟨g1, o1 + j * 6, none⟩ = some (.int .i64 xk) ∧ wr.drew.cell? ⟨g1, o1 + j * 6 + 1, none⟩ = some (.bool xi) ∧ wr.drew.cell? ⟨g1, o1 + j * 6 + 2, none⟩ = some (.int .i64 xn) ∧ wr.drew.cell? ⟨g1, o1 + j * 6 + 3, none⟩ = some (.string (mkS xt)) ∧ wr.drew.cell? ⟨g1, o1 + j * 6 + 4, none⟩ = some (.slice xo ixs.length xq) ∧ wr.drew.cell? ⟨g1, o1 + j * 6 + 5, none⟩ = some (.slice xp iks.length xr) ∧ wr.drew.cell? ⟨g2, o2 + j * 6, none⟩ = some (.int .i64 yk) ∧ wr.drew.cell? ⟨g2, o2 + j * 6 + 1, none⟩ = some (.bool yi) ∧ wr.drew.cell? ⟨g2, o2 + j * 6 + 2, none⟩ = some (.int .i64 yn) ∧ wr.drew.cell? ⟨g2, o2 + j * 6 + 3, none⟩ = some (.string (mkS yt)) ∧ wr.drew.cell? ⟨g2, o2 + j * 6 + 4, none⟩ = some (.slice yo iys.length yq) ∧ wr.drew.cell? ⟨g2, o2 + j * 6 + 5, none⟩ = some (.slice yp jks.length yr)) := HSK.out wr.drew hd1
      clear hat1 hat2 hca hcb hra hrb hx hy HCC hd1 HT k5
      cases hs : smJ (.mk xk xi xn xt ixs iks) (.mk yk yi yn yt iys jks) with
      | true =>
        rw [hs] at HCS HTS
        unfold SmQ at HCS
        clear HPF hs
        go_upto_region 10 with (fail)
        go_region_held3 (fun V => V.cell? ⟨w.heap.size, 4, none⟩ = some (.slice (some ⟨g1, o1, none⟩) n0 q1) ∧ V.cell? ⟨w.heap.size + 1, 4, none⟩ = some (.slice (some ⟨g2, o2, none⟩) n0 q1') ∧ V.cell? ⟨g1, o1 + j * 6, none⟩ = some (.int .i64 xk) ∧ V.cell? ⟨g1, o1 + j * 6 + 1, none⟩ = some (.bool xi) ∧ V.cell? ⟨g1, o1 + j * 6 + 2, none⟩ = some (.int .i64 xn) ∧ V.cell? ⟨g1, o1 + j * 6 + 3, none⟩ = some (.string (mkS xt)) ∧ V.cell? ⟨g1, o1 + j * 6 + 4, none⟩ = some (.slice xo ixs.length xq) ∧ V.cell? ⟨g1, o1 + j * 6 + 5, none⟩ = some (.slice xp iks.length xr) ∧ V.cell? ⟨g2, o2 + j * 6, none⟩ = some (.int .i64 yk) ∧ V.cell? ⟨g2, o2 + j * 6 + 1, none⟩ = some (.bool yi) ∧ V.cell? ⟨g2, o2 + j * 6 + 2, none⟩ = some (.int .i64 yn) ∧ V.cell? ⟨g2, o2 + j * 6 + 3, none⟩ = some (.string (mkS yt)) ∧ V.cell? ⟨g2, o2 + j * 6 + 4, none⟩ = some (.slice yo iys.length yq) ∧ V.cell? ⟨g2, o2 + j * 6 + 5, none⟩ = some (.slice yp jks.length yr))
          (first | (with_reducible exact HS0.out) | (with_reducible exact HSD.out) | (with_reducible exact HS4.out))
          ((go_at_call 6; (with_reducible refine HCS.out.mono ?_); rintro e w4 ⟨rfl, hb4⟩; have hb4' : Below wr.heap.size wr w4 := ⟨hb4.os, hb4.tape, hb4.output, hb4.size, hb4.block⟩; have HS4 := Lib.hid (HSK.out w4 hb4'); have HB4 := Lib.hid (HB.out.trans (hb4'.mono HB.out.size)); clear hb4 hb4'))
        all_goals
          go_wp2
          go_roundw
          case rel => exact ⟨j + 1, by omega, by go_num, HTS, HB4⟩
          case measure => simp [intOf]; omega
      | false =>
        rw [hs] at HCS
        unfold SmQ at HCS
        have HF := Lib.hid (HPF.out hs)
        clear HPF hs HTS
        go_upto_region 10 with (fail)
        go_region_held3 (fun V => V.cell? ⟨w.heap.size, 4, none⟩ = some (.slice (some ⟨g1, o1, none⟩) n0 q1) ∧ V.cell? ⟨w.heap.size + 1, 4, none⟩ = some (.slice (some ⟨g2, o2, none⟩) n0 q1') ∧ V.cell? ⟨g1, o1 + j * 6, none⟩ = some (.int .i64 xk) ∧ V.cell? ⟨g1, o1 + j * 6 + 1, none⟩ = some (.bool xi) ∧ V.cell? ⟨g1, o1 + j * 6 + 2, none⟩ = some (.int .i64 xn) ∧ V.cell? ⟨g1, o1 + j * 6 + 3, none⟩ = some (.string (mkS xt)) ∧ V.cell? ⟨g1, o1 + j * 6 + 4, none⟩ = some (.slice xo ixs.length xq) ∧ V.cell? ⟨g1, o1 + j * 6 + 5, none⟩ = some (.slice xp iks.length xr) ∧ V.cell? ⟨g2, o2 + j * 6, none⟩ = some (.int .i64 yk) ∧ V.cell? ⟨g2, o2 + j * 6 + 1, none⟩ = some (.bool yi) ∧ V.cell? ⟨g2, o2 + j * 6 + 2, none⟩ = some (.int .i64 yn) ∧ V.cell? ⟨g2, o2 + j * 6 + 3, none⟩ = some (.string (mkS yt)) ∧ V.cell? ⟨g2, o2 + j * 6 + 4, none⟩ = some (.slice yo iys.length yq) ∧ V.cell? ⟨g2, o2 + j * 6 + 5, none⟩ = some (.slice yp jks.length yr))
          (first | (with_reducible exact HS0.out) | (with_reducible exact HSD.out) | (with_reducible exact HS4.out))
          ((go_at_call 6; (with_reducible refine HCS.out.mono ?_); rintro e w4 ⟨rfl, hb4⟩; have hb4' : Below wr.heap.size wr w4 := ⟨hb4.os, hb4.tape, hb4.output, hb4.size, hb4.block⟩; have HS4 := Lib.hid (HSK.out w4 hb4'); have HB4 := Lib.hid (HB.out.trans (hb4'.mono HB.out.size)); clear hb4 hb4'))
        all_goals
          go_wp2
          go_ret
          exact ⟨by rw [HF.out]; rfl, btr HB0.out HB4.out⟩
    · have hjl : ¬ (j : Int) < (n0 : Int) := by omega
      have hjn : j = n0 := by omega
      have HF : Hid (smL xs ys = true) := by
        show _ = _
        have := HT.out
        rw [hjn, List.take_of_length_le (by rw [HN.out.1]; exact Nat.le_refl _), List.take_of_length_le (by rw [HN.out.2]; exact Nat.le_refl _)] at this
        exact this
      have HB1 := Lib.hid (HB.out)
      have hws1 := HB1.out.size
      clear hjn HT k4 l4 HB hlt
      go_wp2
      clear k5 hjl
      go_loopw [99] (fun iv w2 => ∃ i : Nat, i ≤ l2 ∧ iv = .int .i64 i ∧ Hid (Below W0.heap.size W0 w2)) (fun iv _ => l2 - (intOf iv).toNat)
      case atStart => exact ⟨0, by omega, rfl, HB1⟩
      case round =>
        obtain ⟨i, hi, rfl, HB⟩ := hrel
        have k0 : wr.cell? ⟨w.heap.size, 0, none⟩ = some (.int .i64 4) := cell_of_row _ _ 0 _ _ _ ((HB.out.block _ (Array.getElem?_eq_some_iff.1 HA0.out).1).trans HA0.out)
        by_cases hil : i < l2
        · have hil2 : (i : Int) < (l2 : Int) := by omega
          have hi0 : (0 : Int) ≤ (i : Int) := by omega
          have HB9 : Hid (∀ m, Below W0.heap.size W0 (wr.drewN m)) := fun m => HB.out.trans ((bdrN wr m).mono HB.out.size)
          go_wp2_with fail
          go_quiet (fail)
          go_wp2_with fail
          go_roundw
          case rel => exact ⟨i + 1, by omega, by go_num, Lib.hid (HB9.out _)⟩
          case measure => simp [intOf]; omega
        · have hil2 : ¬ (i : Int) < (l2 : Int) := by omega
          go_wp2
          go_ret
          exact ⟨by rw [HF.out]; rfl, btr HB0.out HB.out⟩
set_option maxRecDepth 100000 in
set_option maxHeartbeats 4000000 in
theorem sr_5 (P Q : Nat → Prop) (xs ys : List JV) (ks ks' : List (List UInt8)) (is : Bool) (n : Int) (tx : ByteArray) (ao : Option Addr) (q1 : Nat) (ap : Option Addr) (q2 : Nat) (is' : Bool) (n' : Int) (tx' : ByteArray) (ao' : Option Addr) (q1' : Nat) (ap' : Option Addr) (q2' : Nat) (w : World)
    (h1 : IsVs P w (.slice ao xs.length q1) xs) (h2 : IsVs Q w (.slice ao' ys.length q1') ys) (hl : xs.length = ys.length) (hx : xs.length ≤ 1000000) (h3 : RdK P w (.slice ap ks.length q2) ks) (h4 : RdK Q w (.slice ap' ks'.length q2') ks') (hkk : ks.length = ks'.length) (hk : ks.length ≤ 1000000)
    (HS : ∀ i (hi : i < xs.length) (hj : i < ys.length) (W : World) (ca cb : List Value), Rep P W xs[i] ca → Rep Q W ys[i] cb → Calls Tryz.prog 6 #[.agg ca.toArray, .agg cb.toArray] W (SmQ (smJ xs[i] ys[i]) W)) :
    Calls Tryz.prog 6 #[.agg #[.int .i64 5, .bool is, .int .i64 n, .string tx, .slice ao xs.length q1, .slice ap ks.length q2], .agg #[.int .i64 5, .bool is', .int .i64 n', .string tx', .slice ao' ys.length q1', .slice ap' ks'.length q2']] w (SmQ (ks == ks' && smL xs ys) w) := by
  obtain ⟨n0, hn0⟩ : ∃ n0, n0 = xs.length := ⟨_, rfl⟩
  have HN : Hid (xs.length = n0 ∧ ys.length = n0) := ⟨hn0.symm, by omega⟩
  have hx0 : n0 ≤ 1000000 := by omega
  rw [← hl, ← hn0]
  rw [HN.out.1] at h1
  rw [HN.out.2] at h2
  obtain ⟨m0, hm0⟩ : ∃ m0, m0 = ks.length := ⟨_, rfl⟩
  have HM : Hid (ks.length = m0 ∧ ks'.length = m0) := ⟨hm0.symm, by omega⟩
  rw [← hkk, ← hm0]
  rw [HM.out.1] at h3
  rw [HM.out.2] at h4
  have hk0 : m0 ≤ 1000000 := by omega
  obtain ⟨W0, hW0, hk0', hk1, hb0⟩ := two_o w #[.int .i64 5, .bool is, .int .i64 n, .string tx, .slice ao n0 q1, .slice ap m0 q2] #[.int .i64 5, .bool is', .int .i64 n', .string tx', .slice ao' n0 q1', .slice ap' m0 q2'] 31 31
  have HW0 := Lib.hid hW0
  have HB0 := Lib.hid hb0
  have HA0 := Lib.hid hk0'
  have HA1 := Lib.hid hk1
  have hsz : W0.heap.size = w.heap.size + 2 := by rw [hW0]; simp
  obtain ⟨a0, a1, a2, a3, a4, a5⟩ := cells6 hk0'
  obtain ⟨c0, c1, c2, c3, c4, c5⟩ := cells6 hk1
  have H1 := Lib.hid (h1.keep (Kep.of hb0))
  have H2 := Lib.hid (h2.keep (Kep.of hb0))
  have H3 := Lib.hid (RdK.keep (Kep.of hb0) h3)
  have H4 := Lib.hid (RdK.keep (Kep.of hb0) h4)
  have HSS := Lib.hid HS
  clear hW0 hb0 hk0' hk1 HS h1 h2 hl hx hn0 h3 h4 hkk hk hm0
  go_enter Tryz.func6, Tryz.ntmps6
  go_upto_region 1 with (fail)
  rw [← HW0.out]
  go_wp2
  clear a0 a1 a2 a3 a4 a5 c0 c1 c2 c3 c4 c5
  go_loopw [80] (fun iv wr => ∃ j : Nat, j ≤ n0 ∧ iv = .int .i64 j ∧ Hid (smL (xs.take j) (ys.take j) = true) ∧ Hid (Below W0.heap.size W0 wr)) (fun iv _ => n0 - (intOf iv).toNat)
  case atStart => exact ⟨0, by omega, rfl, Lib.hid (by simp [smL]), Lib.hid (Below.refl _ _)⟩
  case round =>
    obtain ⟨j, hj, rfl, HT, HB⟩ := hrel
    have k4 : wr.cell? ⟨w.heap.size, 4, none⟩ = some (.slice ao n0 q1) := cell_of_row _ _ 4 _ _ _ ((HB.out.block _ (Array.getElem?_eq_some_iff.1 HA0.out).1).trans HA0.out)
    have k5 : wr.cell? ⟨w.heap.size, 5, none⟩ = some (.slice ap m0 q2) := cell_of_row _ _ 5 _ _ _ ((HB.out.block _ (Array.getElem?_eq_some_iff.1 HA0.out).1).trans HA0.out)
    have l4 : wr.cell? ⟨w.heap.size + 1, 4, none⟩ = some (.slice ao' n0 q1') := cell_of_row _ _ 4 _ _ _ ((HB.out.block _ (Array.getElem?_eq_some_iff.1 HA1.out).1).trans HA1.out)
    have hws := HB.out.size
    by_cases hlt : j < n0
    · have HX1 := Lib.hid (show j < xs.length by rw [HN.out.1]; exact hlt)
      have HY1 := Lib.hid (show j < ys.length by rw [HN.out.2]; exact hlt)
      obtain ⟨g1, o1, rfl, hg1, hat1⟩ := (H1.out.keep (Kep.of HB.out)).at (by have := HX1.out; omega)
      obtain ⟨g2, o2, rfl, hg2, hat2⟩ := (H2.out.keep (Kep.of HB.out)).at (by have := HY1.out; omega)
      have hj0 : (0 : Int) ≤ (j : Int) := by omega
      have hjl : (j : Int) < (n0 : Int) := by omega
      obtain ⟨ca, hca, hra⟩ := hat1 j HX1.out
      obtain ⟨cb, hcb, hrb⟩ := hat2 j HY1.out
      have HTS : Hid (smL (xs.take (j + 1)) (ys.take (j + 1)) = smJ (xs[j]'HX1.out) (ys[j]'HY1.out)) := by
        show _ = _
        rw [List.take_succ_eq_append_getElem HX1.out, List.take_succ_eq_append_getElem HY1.out, smL_snoc _ _ (by rw [List.length_take, List.length_take, HN.out.1, HN.out.2]), HT.out, Bool.true_and]
      have HPF := Lib.hid (smL_pre HX1.out HY1.out)
      obtain ⟨⟨xk, xi, xn, xt, ixs, iks⟩, hx⟩ : ∃ x, xs[j]'HX1.out = x := ⟨_, rfl⟩
      obtain ⟨⟨yk, yi, yn, yt, iys, jks⟩, hy⟩ : ∃ y, ys[j]'HY1.out = y := ⟨_, rfl⟩
      have HCC := Lib.hid (fun W => HSS.out j HX1.out HY1.out W)
      rw [hx] at hra
      rw [hy] at hrb
      rw [hx, hy] at HTS HPF
      rw [hx, hy] at HCC
      obtain ⟨xo, xq, xp, xr, rfl, _⟩ := rep_c6 hra
      obtain ⟨yo, yq, yp, yr, rfl, _⟩ := rep_c6 hrb
      obtain ⟨p0, p1, p2, p3, p4, p5⟩ := cs6 hca
      obtain ⟨r0, r1, r2, r3, r4, r5⟩ := cs6 hcb
      have hd1 : Below wr.heap.size wr wr.drew := (Below.refl _ _).drew
      have HCS := Lib.hid (HCC.out wr.drew _ _ (Rep.keep (Kep.of hd1) _ hra) (Rep.keep (Kep.of hd1) _ hrb))
      have HSK : Hid (∀ V : World, Below wr.heap.size wr V → V.cell? ⟨w.heap.size, 4, none⟩ = some (.slice (some ⟨g1, o1, none⟩) n0 q1) ∧ V.cell? ⟨w.heap.size + 1, 4, none⟩ = some (.slice (some ⟨g2, o2, none⟩) n0 q1') ∧ V.cell? ⟨g1, o1 + j * 6, none⟩ = some (.int .i64 xk) ∧ V.cell? ⟨g1, o1 + j * 6 + 1, none⟩ = some (.bool xi) ∧ V.cell? ⟨g1, o1 + j * 6 + 2, none⟩ = some (.int .i64 xn) ∧ V.cell? ⟨g1, o1 + j * 6 + 3, none⟩ = some (.string (mkS xt)) ∧ V.cell? ⟨g1, o1 + j * 6 + 4, none⟩ = some (.slice xo ixs.length xq) ∧ V.cell? ⟨g1, o1 + j * 6 + 5, none⟩ = some (.slice xp iks.length xr) ∧ V.cell? ⟨g2, o2 + j * 6, none⟩ = some (.int .i64 yk) ∧ V.cell? ⟨g2, o2 + j * 6 + 1, none⟩ = some (.bool yi) ∧ V.cell? ⟨g2, o2 + j * 6 + 2, none⟩ = some (.int .i64 yn) ∧ V.cell? ⟨g2, o2 + j * 6 + 3, none⟩ = some (.string (mkS yt)) ∧ V.cell? ⟨g2, o2 + j * 6 + 4, none⟩ = some (.slice yo iys.length yq) ∧ V.cell? ⟨g2, o2 + j * 6 + 5, none⟩ = some (.slice yp jks.length yr)) := fun V hV => ⟨(hV.cell (p := ⟨w.heap.size, 4, none⟩) (show w.heap.size < _ by omega)).trans k4, (hV.cell (p := ⟨w.heap.size + 1, 4, none⟩) (show w.heap.size + 1 < _ by omega)).trans l4, (hV.cell (p := ⟨g1, _, none⟩) hg1).trans p0, (hV.cell (p := ⟨g1, _, none⟩) hg1).trans p1, (hV.cell (p := ⟨g1, _, none⟩) hg1).trans p2, (hV.cell (p := ⟨g1, _, none⟩) hg1).trans p3, (hV.cell (p := ⟨g1, _, none⟩) hg1).trans p4, (hV.cell (p := ⟨g1, _, none⟩) hg1).trans p5, (hV.cell (p := ⟨g2, _, none⟩) hg2).trans r0, (hV.cell (p := ⟨g2, _, none⟩) hg2).trans r1, (hV.cell (p := ⟨g2, _, none⟩) hg2).trans r2, (hV.cell (p := ⟨g2, _, none⟩) hg2).trans r3, (hV.cell (p := ⟨g2, _, none⟩) hg2).trans r4, (hV.cell (p := ⟨g2, _, none⟩) hg2).trans r5⟩
      have HS0 : Hid (wr.cell? ⟨w.heap.size, 4, none⟩ = some (.slice (some ⟨g1, o1, none⟩) n0 q1) ∧ wr.cell? ⟨w.heap.size + 1, 4, none⟩ = some (.slice (some ⟨g2, o2, none⟩) n0 q1') ∧ wr.cell? ⟨g1, o1 + j * 6, none⟩ = some (.int .i64 xk) ∧ wr.cell? ⟨g1, o1 + j * 6 + 1, none⟩ = some (.bool xi) ∧ wr.cell? ⟨g1, o1 + j * 6 + 2, none⟩ = some (.int .i64 xn) ∧ wr.cell? ⟨g1, o1 + j * 6 + 3, none⟩ = some (.string (mkS xt)) ∧ wr.cell? ⟨g1, o1 + j * 6 + 4, none⟩ = some (.slice xo ixs.length xq) ∧ wr.cell? ⟨g1, o1 + j * 6 + 5, none⟩ = some (.slice xp iks.length xr) ∧ wr.cell? ⟨g2, o2 + j * 6, none⟩ = some (.int .i64 yk) ∧ wr.cell? ⟨g2, o2 + j * 6 + 1, none⟩ = some (.bool yi) ∧ wr.cell? ⟨g2, o2 + j * 6 + 2, none⟩ = some (.int .i64 yn) ∧ wr.cell? ⟨g2, o2 + j * 6 + 3, none⟩ = some (.string (mkS yt)) ∧ wr.cell? ⟨g2, o2 + j * 6 + 4, none⟩ = some (.slice yo iys.length yq) ∧ wr.cell? ⟨g2, o2 + j * 6 + 5, none⟩ = some (.slice yp jks.length yr)) := HSK.out wr (Below.refl _ _)
      have HSD : Hid (wr.drew.cell? ⟨w.heap.size, 4, none⟩ = some (.slice (some ⟨g1, o1, none⟩) n0 q1) ∧ wr.drew.cell? ⟨w.heap.size + 1, 4, none⟩ = some (.slice (some ⟨g2, o2, none⟩) n0 q1') ∧ wr.drew.cell? ⟨g1, o1 + j * 6, none⟩ = some (.int .i64 xk) ∧ wr.drew.cell? ⟨g1, o1 + j * 6 + 1, none⟩ = some (.bool xi) ∧ wr.drew.cell? ⟨g1, o1 + j * 6 + 2, none⟩ = some (.int .i64 xn) ∧ wr.drew.cell? ⟨g1, o1 + j * 6 + 3, none⟩ = some (.string (mkS xt)) ∧ wr.drew.cell? ⟨g1, o1 + j * 6 + 4, none⟩ = some (.slice xo ixs.length xq) ∧ wr.drew.cell? ⟨g1, o1 + j * 6 + 5, none⟩ = some (.slice xp iks.length xr) ∧ wr.drew.cell? ⟨g2, o2 + j * 6, none⟩ = some (.int .i64 yk) ∧ wr.drew.cell? ⟨g2, o2 + j * 6 + 1, none⟩ = some (.bool yi) ∧ wr.drew.cell? ⟨g2, o2 + j * 6 + 2, none⟩ = some (.int .i64 yn) ∧ wr.drew.cell? ⟨g2, o2 + j * 6 + 3, none⟩ = some (.string (mkS yt)) ∧ wr.drew.cell? ⟨g2, o2 + j * 6 + 4, none⟩ = some (.slice yo iys.length yq) ∧ wr.drew.cell? ⟨g2, o2 + j * 6 + 5, none⟩ = some (.slice yp jks.length yr)) := HSK.out wr.drew hd1
      clear hat1 hat2 hca hcb hra hrb hx hy HCC hd1 HT k5
      cases hs : smJ (.mk xk xi xn xt ixs iks) (.mk yk yi yn yt iys jks) with
      | true =>
        rw [hs] at HCS HTS
        unfold SmQ at HCS
        clear HPF hs
        go_upto_region 10 with (fail)
        go_region_held3 (fun V => V.cell? ⟨w.heap.size, 4, none⟩ = some (.slice (some ⟨g1, o1, none⟩) n0 q1) ∧ V.cell? ⟨w.heap.size + 1, 4, none⟩ = some (.slice (some ⟨g2, o2, none⟩) n0 q1') ∧ V.cell? ⟨g1, o1 + j * 6, none⟩ = some (.int .i64 xk) ∧ V.cell? ⟨g1, o1 + j * 6 + 1, none⟩ = some (.bool xi) ∧ V.cell? ⟨g1, o1 + j * 6 + 2, none⟩ = some (.int .i64 xn) ∧ V.cell? ⟨g1, o1 + j * 6 + 3, none⟩ = some (.string (mkS xt)) ∧ V.cell? ⟨g1, o1 + j * 6 + 4, none⟩ = some (.slice xo ixs.length xq) ∧ V.cell? ⟨g1, o1 + j * 6 + 5, none⟩ = some (.slice xp iks.length xr) ∧ V.cell? ⟨g2, o2 + j * 6, none⟩ = some (.int .i64 yk) ∧ V.cell? ⟨g2, o2 + j * 6 + 1, none⟩ = some (.bool yi) ∧ V.cell? ⟨g2, o2 + j * 6 + 2, none⟩ = some (.int .i64 yn) ∧ V.cell? ⟨g2, o2 + j * 6 + 3, none⟩ = some (.string (mkS yt)) ∧ V.cell? ⟨g2, o2 + j * 6 + 4, none⟩ = some (.slice yo iys.length yq) ∧ V.cell? ⟨g2, o2 + j * 6 + 5, none⟩ = some (.slice yp jks.length yr))
          (first | (with_reducible exact HS0.out) | (with_reducible exact HSD.out) | (with_reducible exact HS4.out))
          ((go_at_call 6; (with_reducible refine HCS.out.mono ?_); rintro e w4 ⟨rfl, hb4⟩; have hb4' : Below wr.heap.size wr w4 := ⟨hb4.os, hb4.tape, hb4.output, hb4.size, hb4.block⟩; have HS4 := Lib.hid (HSK.out w4 hb4'); have HB4 := Lib.hid (HB.out.trans (hb4'.mono HB.out.size)); clear hb4 hb4'))
        all_goals
          go_wp2
          go_roundw
          case rel => exact ⟨j + 1, by omega, by go_num, HTS, HB4⟩
          case measure => simp [intOf]; omega
      | false =>
        rw [hs] at HCS
        unfold SmQ at HCS
        have HF := Lib.hid (HPF.out hs)
        clear HPF hs HTS
        go_upto_region 10 with (fail)
        go_region_held3 (fun V => V.cell? ⟨w.heap.size, 4, none⟩ = some (.slice (some ⟨g1, o1, none⟩) n0 q1) ∧ V.cell? ⟨w.heap.size + 1, 4, none⟩ = some (.slice (some ⟨g2, o2, none⟩) n0 q1') ∧ V.cell? ⟨g1, o1 + j * 6, none⟩ = some (.int .i64 xk) ∧ V.cell? ⟨g1, o1 + j * 6 + 1, none⟩ = some (.bool xi) ∧ V.cell? ⟨g1, o1 + j * 6 + 2, none⟩ = some (.int .i64 xn) ∧ V.cell? ⟨g1, o1 + j * 6 + 3, none⟩ = some (.string (mkS xt)) ∧ V.cell? ⟨g1, o1 + j * 6 + 4, none⟩ = some (.slice xo ixs.length xq) ∧ V.cell? ⟨g1, o1 + j * 6 + 5, none⟩ = some (.slice xp iks.length xr) ∧ V.cell? ⟨g2, o2 + j * 6, none⟩ = some (.int .i64 yk) ∧ V.cell? ⟨g2, o2 + j * 6 + 1, none⟩ = some (.bool yi) ∧ V.cell? ⟨g2, o2 + j * 6 + 2, none⟩ = some (.int .i64 yn) ∧ V.cell? ⟨g2, o2 + j * 6 + 3, none⟩ = some (.string (mkS yt)) ∧ V.cell? ⟨g2, o2 + j * 6 + 4, none⟩ = some (.slice yo iys.length yq) ∧ V.cell? ⟨g2, o2 + j * 6 + 5, none⟩ = some (.slice yp jks.length yr))
          (first | (with_reducible exact HS0.out) | (with_reducible exact HSD.out) | (with_reducible exact HS4.out))
          ((go_at_call 6; (with_reducible refine HCS.out.mono ?_); rintro e w4 ⟨rfl, hb4⟩; have hb4' : Below wr.heap.size wr w4 := ⟨hb4.os, hb4.tape, hb4.output, hb4.size, hb4.block⟩; have HS4 := Lib.hid (HSK.out w4 hb4'); have HB4 := Lib.hid (HB.out.trans (hb4'.mono HB.out.size)); clear hb4 hb4'))
        all_goals
          go_wp2
          go_ret
          exact ⟨by rw [HF.out]; simp, btr HB0.out HB4.out⟩
    · have hjl : ¬ (j : Int) < (n0 : Int) := by omega
      have hjn : j = n0 := by omega
      have HF : Hid (smL xs ys = true) := by
        show _ = _
        have := HT.out
        rw [hjn, List.take_of_length_le (by rw [HN.out.1]; exact Nat.le_refl _), List.take_of_length_le (by rw [HN.out.2]; exact Nat.le_refl _)] at this
        exact this
      have HB1 := Lib.hid (HB.out)
      have hws1 := HB1.out.size
      clear hjn HT k4 l4 HB hlt
      go_wp2
      clear k5 hjl
      go_loopw [99] (fun iv w2 => ∃ i : Nat, i ≤ m0 ∧ iv = .int .i64 i ∧ Hid (ks.take i = ks'.take i) ∧ Hid (Below W0.heap.size W0 w2)) (fun iv _ => m0 - (intOf iv).toNat)
      case atStart => exact ⟨0, by omega, rfl, Lib.hid (by simp), HB1⟩
      case round =>
        obtain ⟨i, hi, rfl, HT, HB⟩ := hrel
        have k0 : wr.cell? ⟨w.heap.size, 0, none⟩ = some (.int .i64 5) := cell_of_row _ _ 0 _ _ _ ((HB.out.block _ (Array.getElem?_eq_some_iff.1 HA0.out).1).trans HA0.out)
        by_cases hil : i < m0
        · have kep2 : Below W0.heap.size W0 wr := HB.out
          obtain ⟨g1, o1, rfl, hg1, hat1⟩ := rdk_at (RdK.keep (Kep.of HB.out) H3.out) (by rw [HM.out.1]; omega)
          obtain ⟨g2, o2, rfl, hg2, hat2⟩ := rdk_at (RdK.keep (Kep.of HB.out) H4.out) (by rw [HM.out.2]; omega)
          have k5 : wr.cell? ⟨w.heap.size, 5, none⟩ = some (.slice (some ⟨g1, o1, none⟩) m0 q2) := cell_of_row _ _ 5 _ _ _ ((HB.out.block _ (Array.getElem?_eq_some_iff.1 HA0.out).1).trans HA0.out)
          have l5 : wr.cell? ⟨w.heap.size + 1, 5, none⟩ = some (.slice (some ⟨g2, o2, none⟩) m0 q2') := cell_of_row _ _ 5 _ _ _ ((HB.out.block _ (Array.getElem?_eq_some_iff.1 HA1.out).1).trans HA1.out)
          have hil2 : (i : Int) < (m0 : Int) := by omega
          have hi0 : (0 : Int) ≤ (i : Int) := by omega
          have p1 := hat1 i (by rw [HM.out.1]; exact hil)
          have p2 := hat2 i (by rw [HM.out.2]; exact hil)
          have HTE := Lib.hid (take_eq (a := ks) (b := ks') (j := i) (by rw [HM.out.1]; exact hil) (by rw [HM.out.2]; exact hil) HT.out)
          have HPE : Hid (ks[i]'(by rw [HM.out.1]; exact hil) ≠ ks'[i]'(by rw [HM.out.2]; exact hil) → (ks == ks') = false) := fun hne => by
            rw [beq_eq_false_iff_ne]; intro e; subst e; exact hne rfl
          have HB9 : Hid (∀ m, Below W0.heap.size W0 (wr.drewN m)) := fun m => HB.out.trans ((bdrN wr m).mono HB.out.size)
          generalize ks[i]'(by rw [HM.out.1]; exact hil) = x at p1 HTE HPE
          generalize ks'[i]'(by rw [HM.out.2]; exact hil) = y at p2 HTE HPE
          have hxy := mkS_beq x y
          clear hat1 hat2 HT kep2
          by_cases he : x = y
          · have q1 : ((mkS x).toList == (mkS y).toList) = true := by rw [hxy]; simpa using he
            have q2 : ((mkS x).toList != (mkS y).toList) = false := by rw [bne, q1]; rfl
            have HT2 := Lib.hid (HTE.out he)
            clear he hxy HPE HTE
            go_wp2_with fail
            go_quiet (fail)
            go_wp2_with fail
            go_roundw
            case rel => exact ⟨i + 1, by omega, by go_num, HT2, Lib.hid (HB9.out _)⟩
            case measure => simp [intOf]; omega
          · have q1 : ((mkS x).toList == (mkS y).toList) = false := by rw [hxy]; simpa using he
            have q2 : ((mkS x).toList != (mkS y).toList) = true := by rw [bne, q1]; rfl
            have HF2 := Lib.hid (HPE.out he)
            clear he hxy HPE HTE
            go_wp2_with fail
            go_quiet (fail)
            go_wp2
            go_ret
            exact ⟨by rw [HF2.out]; simp, btr HB0.out (HB9.out _)⟩
        · have hil2 : ¬ (i : Int) < (m0 : Int) := by omega
          have HF2 : Hid ((ks == ks') = true) := by
            show _ = _
            have hin : i = m0 := by omega
            have := HT.out
            rw [hin, List.take_of_length_le (by rw [HM.out.1]; exact Nat.le_refl _), List.take_of_length_le (by rw [HM.out.2]; exact Nat.le_refl _)] at this
            simpa using this
          clear HT
          go_wp2
          go_ret
          exact ⟨by rw [HF2.out, HF.out]; simp, btr HB0.out HB.out⟩
/-- the document's Same, of trees not deeper than n -/
theorem rsame_all : ∀ (n : Nat) (x y : JV), dep x ≤ n → wid x ≤ 1000000 → wid y ≤ 1000000 → ∀ (P Q : Nat → Prop) (W : World) (ca cb : List Value), Rep P W x ca → Rep Q W y cb → Calls Tryz.prog 6 #[.agg ca.toArray, .agg cb.toArray] W (SmQ (smJ x y) W)
  | n, .mk k is m t xs ks, .mk k' is' m' t' xs' ks', hd, hw, hw', P, Q, W, ca, cb, ha, hb => by
    obtain ⟨ao, q1, ap, q2, rfl, hka, hla⟩ := rep_c6 ha
    obtain ⟨ao', q1', ap', q2', rfl, hkb, hlb⟩ := rep_c6 hb
    rw [wid] at hw hw'
    rw [smJ]
    by_cases hkk : k ≠ k'
    · rw [if_pos hkk]
      exact sr_ne k k' _ _ _ _ _ _ _ _ _ _ _ _ _ _ _ _ _ _ W hkk
    rw [if_neg hkk]
    obtain rfl : k = k' := by omega
    by_cases h1 : k = 1
    · rw [if_pos h1]; subst h1
      by_cases he : is = is'
      · rw [show (is == is') = true by simpa using he]
        exact sr_1t _ _ _ _ _ _ _ _ _ _ _ _ _ _ _ _ _ _ W he
      · rw [show (is == is') = false by simpa using he]
        exact sr_1f _ _ _ _ _ _ _ _ _ _ _ _ _ _ _ _ _ _ W he
    rw [if_neg h1]
    by_cases h2 : k = 2
    · rw [if_pos h2]; subst h2
      by_cases he : m = m'
      · rw [show (m == m') = true by simpa using he]
        exact sr_2t _ _ _ _ _ _ _ _ _ _ _ _ _ _ _ _ _ _ W he
      · rw [show (m == m') = false by simpa using he]
        exact sr_2f _ _ _ _ _ _ _ _ _ _ _ _ _ _ _ _ _ _ W he
    rw [if_neg h2]
    by_cases h3 : k = 3
    · rw [if_pos h3]; subst h3
      rw [← mkS_beq]
      cases he : (mkS t).toList == (mkS t').toList with
      | true => exact sr_3t _ _ _ _ _ _ _ _ _ _ _ _ _ _ _ _ _ _ W he
      | false => exact sr_3f _ _ _ _ _ _ _ _ _ _ _ _ _ _ _ _ _ _ W he
    rw [if_neg h3]
    have HS : (k = 4 ∨ k = 5) → ∀ i (hi : i < xs.length) (hj : i < xs'.length) (V : World) (ca cb : List Value), Rep P V xs[i] ca → Rep Q V xs'[i] cb → Calls Tryz.prog 6 #[.agg ca.toArray, .agg cb.toArray] V (SmQ (smJ xs[i] xs'[i]) V) := fun hk45 i hi hj V' ca cb hra hrb => by
      rw [dep, if_pos hk45] at hd
      obtain ⟨n', rfl⟩ : ∃ n', n = n' + 1 := ⟨n - 1, by omega⟩
      exact rsame_all n' xs[i] xs'[i] (by have := dep_mem hi; omega) (by have := wid_mem hi; omega) (by have := wid_mem hj; omega) P Q V' ca cb hra hrb
    by_cases h5 : k = 5
    · rw [if_pos h5]
      have HS5 := HS (.inr h5)
      subst h5
      by_cases hl : xs.length = xs'.length
      · by_cases hk : ks.length = ks'.length
        · exact sr_5 P Q xs xs' ks ks' _ _ _ _ _ _ _ _ _ _ _ _ _ _ W (isvs hla) (isvs hlb) hl (by omega) hka hkb hk (by omega) HS5
        · rw [show (ks == ks') = false by rw [beq_eq_false_iff_ne]; intro e; exact hk (by rw [e]), Bool.false_and]
          exact sr_5k _ _ _ _ _ _ _ _ _ _ _ _ _ _ _ _ _ _ W hl hk
      · rw [smL_len hl, Bool.and_false]
        exact sr_5n _ _ _ _ _ _ _ _ _ _ _ _ _ _ _ _ _ _ W hl
    rw [if_neg h5]
    by_cases h4 : k = 4
    · rw [if_pos h4]
      have HS4 := HS (.inl h4)
      subst h4
      by_cases hl : xs.length = xs'.length
      · exact sr_4 P Q xs xs' ks.length ks'.length _ _ _ _ _ _ _ _ _ _ _ _ _ _ W (isvs hla) (isvs hlb) hl (by omega) (by omega) HS4
      · rw [smL_len hl]
        exact sr_4n _ _ _ _ _ _ _ _ _ _ _ _ _ _ _ _ _ _ W hl
    rw [if_neg h4]
    exact sr_o k _ _ _ _ _ _ _ _ _ _ _ _ _ _ _ _ _ _ W ⟨h1, h2, h3, h5, h4⟩
theorem RSame_c {P Q : Nat → Prop} {x y : JV} {ca cb : List Value} {w : World} (ha : Rep P w x ca) (hb : Rep Q w y cb) (hw : wid x ≤ 1000000) (hw' : wid y ≤ 1000000) : Calls Tryz.prog 6 #[.agg ca.toArray, .agg cb.toArray] w (SmQ (smJ x y) w) :=
  rsame_all (dep x) x y (Nat.le_refl _) hw hw' P Q w ca cb ha hb
end Go.Proofs.YtpgllcdcpdeicaaGreatDoor.Jv
namespace Go.Proofs.YtpgllcdcpdeicaaGreatDoor.Jv
open Jt
open Go.RowKit Go.ChangeMaps Go.MapKept Go.WideMaps
set_option linter.unusedSimpArgs false
set_option linter.unusedVariables false

def DpQ (n : Nat) (w : World) (e : Ending) (w' : World) : Prop := e = .returned (.int .i64 (n : Int)) ∧ Below w.heap.size w w'
theorem depL_take {xs : List JV} {j : Nat} (hj : j < xs.length) : depL (xs.take (j + 1)) = max (depL (xs.take j)) (dep xs[j]) := by
  rw [List.take_succ_eq_append_getElem hj, depL_snoc]
theorem depL_le {xs : List JV} (j : Nat) : depL (xs.take j) ≤ depL xs := by
  induction xs generalizing j with
  | nil => simp
  | cons x xs ih =>
    cases j with
    | zero => simp [depL]
    | succ j => rw [List.take_succ_cons, depL, depL]; have := ih j; omega
set_option maxRecDepth 100000 in
set_option maxHeartbeats 1000000 in
theorem dp_o (k : Int) (is : Bool) (n : Int) (tx : ByteArray) (ao : Option Addr) (l1 q1 : Nat) (ap : Option Addr) (l2 q2 : Nat) (w : World) (hk : k ≠ 4 ∧ k ≠ 5) :
    Calls Tryz.prog 15 #[.agg #[.int .i64 k, .bool is, .int .i64 n, .string tx, .slice ao l1 q1, .slice ap l2 q2]] w (DpQ 0 w) := by
  obtain ⟨W0, hW0, hk0, hb0⟩ := one_v6 w k is n tx ao l1 q1 ap l2 q2
  have HW0 := Lib.hid hW0
  have HB0 := Lib.hid hb0
  obtain ⟨a0, a1, a2, a3, a4, a5⟩ := cells6 hk0
  obtain ⟨h1, h2⟩ := hk
  have e1 : (k == 4) = false := by simpa using h1
  have e2 : (k == 5) = false := by simpa using h2
  clear hW0 hb0 hk0 h1 h2
  go_enter Tryz.func15, Tryz.ntmps15
  go_upto_region 1 with (fail)
  rw [← HW0.out]
  go_wp2
  go_ret
  exact ⟨rfl, HB0.out⟩
set_option maxRecDepth 100000 in
set_option maxHeartbeats 1000000 in
theorem dp_4 (is : Bool) (m : Int) (tx : ByteArray) (ao : Option Addr) (q1 : Nat) (ap : Option Addr) (l2 q2 : Nat) (P : Nat → Prop) (xs : List JV) (w : World) (h : IsVs P w (.slice ao xs.length q1) xs) (hl : xs.length ≤ 1000000) (hd : depL xs ≤ 1000000)
    (HS : ∀ i (hi : i < xs.length) (W : World) (ca : List Value), Rep P W xs[i] ca → Calls Tryz.prog 15 #[.agg ca.toArray] W (DpQ (dep xs[i]) W)) :
    Calls Tryz.prog 15 #[.agg #[.int .i64 4, .bool is, .int .i64 m, .string tx, .slice ao xs.length q1, .slice ap l2 q2]] w (DpQ (depL xs + 1) w) := by
  obtain ⟨W0, hW0, hk0, hb0⟩ := one_v6 w 4 is m tx ao xs.length q1 ap l2 q2
  have HW0 := Lib.hid hW0
  have HB0 := Lib.hid hb0
  have H := Lib.hid (h.keep (Kep.of hb0))
  have HSS := Lib.hid HS
  obtain ⟨a0, a1, a2, a3, a4, a5⟩ := cells6 hk0
  obtain ⟨n, hn⟩ : ∃ n, n = xs.length := ⟨_, rfl⟩
  have HN : Hid (xs.length = n) := hn.symm
  rw [← hn] at a4 H ⊢ HW0
  have hnl : n ≤ 1000000 := by omega
  clear hW0 hb0 hk0 h HS hn hl
  go_enter Tryz.func15, Tryz.ntmps15
  go_upto_region 1 with (fail)
  rw [← HW0.out]
  go_wp2
  clear a0 a1 a2 a3 a4 a5
  go_loopw [3, 15] (fun dv iv wr => ∃ j : Nat, j ≤ n ∧ iv = .int .i64 j ∧ dv = .int .i64 (depL (xs.take j) : Nat) ∧ Hid (Below W0.heap.size W0 wr)) (fun _ iv _ => n - (intOf iv).toNat)
  case atStart => exact ⟨0, by omega, rfl, by simp [depL], Lib.hid (Below.refl _ _)⟩
  case round =>
    obtain ⟨j, hj, rfl, rfl, HB⟩ := hrel
    have hdl := depL_le (xs := xs) j
    by_cases hlt : j < n
    · have HX1 := Lib.hid (show j < xs.length by rw [HN.out]; exact hlt)
      obtain ⟨g1, o1, rfl, hg1, hat1⟩ := (H.out.keep (Kep.of HB.out)).at (by have := HX1.out; omega)
      have hj0 : (0 : Int) ≤ (j : Int) := by omega
      have hjl : (j : Int) < (n : Int) := by omega
      obtain ⟨ca, hca, hra⟩ := hat1 j HX1.out
      have HTK := Lib.hid (depL_take HX1.out)
      have hdj := dep_mem HX1.out
      obtain ⟨⟨k, is', nn, t, ixs, iks⟩, hx⟩ : ∃ x, xs[j]'HX1.out = x := ⟨_, rfl⟩
      have HCC := Lib.hid (fun W => HSS.out j HX1.out W)
      rw [hx] at hra HTK hdj HCC
      obtain ⟨ao', q1', ap', q2', rfl, _⟩ := rep_c6 hra
      obtain ⟨p0, p1, p2, p3, p4, p5⟩ := cs6 hca
      obtain ⟨W1, hW1, hk1, hb1⟩ := one_v6 wr k is' nn (mkS t) ao' ixs.length q1' ap' iks.length q2'
      have HW1 := Lib.hid hW1
      have HK1 := Lib.hid hk1
      have HB1 := Lib.hid (btr HB.out hb1)
      have HCS := Lib.hid (HCC.out W1 _ (Rep.keep (Kep.of hb1) _ hra))
      have hn1 : g1 ≠ wr.heap.size := by omega
      generalize dep (JV.mk k is' nn t ixs iks) = D at HCS HTK hdj
      unfold DpQ at HCS
      clear hat1 hca hra hx HCC hW1 hk1 hb1 HB
      go_upto_region 8 with (fail)
      rw [← HW1.out]
      clear p0 p1 p2 p3 p4 p5
      obtain ⟨p0, p1, p2, p3, p4, p5⟩ := cells6 HK1.out
      go_wp2_with fail
      (with_reducible refine HCS.out.mono ?_)
      rintro e w4 ⟨rfl, hb4⟩
      have HB4 := Lib.hid (btr HB1.out hb4)
      clear hb4 p0 p1 p2 p3 p4 p5
      go_wp2
      go_roundw
      case rel => exact ⟨j + 1, by omega, by go_num, by rw [HTK.out]; congr 1; omega, HB4⟩
      case measure => simp [intOf]; omega
    · have hjl : ¬ (j : Int) < (n : Int) := by omega
      have hjn : j = n := by omega
      have HF : Hid (depL (xs.take j) = depL xs) := by
        show _ = _
        rw [hjn, ← HN.out, List.take_of_length_le (Nat.le_refl _)]
      have HBF := Lib.hid (btr HB0.out HB.out)
      generalize depL (xs.take j) = D at HF hdl ⊢
      clear hjn HB
      go_wp2
      go_ret
      exact ⟨by rw [← HF.out]; simp, HBF.out⟩
set_option maxRecDepth 100000 in
set_option maxHeartbeats 1000000 in
theorem dp_5 (is : Bool) (m : Int) (tx : ByteArray) (ao : Option Addr) (q1 : Nat) (ap : Option Addr) (l2 q2 : Nat) (P : Nat → Prop) (xs : List JV) (w : World) (h : IsVs P w (.slice ao xs.length q1) xs) (hl : xs.length ≤ 1000000) (hd : depL xs ≤ 1000000)
    (HS : ∀ i (hi : i < xs.length) (W : World) (ca : List Value), Rep P W xs[i] ca → Calls Tryz.prog 15 #[.agg ca.toArray] W (DpQ (dep xs[i]) W)) :
    Calls Tryz.prog 15 #[.agg #[.int .i64 5, .bool is, .int .i64 m, .string tx, .slice ao xs.length q1, .slice ap l2 q2]] w (DpQ (depL xs + 1) w) := by
  obtain ⟨W0, hW0, hk0, hb0⟩ := one_v6 w 5 is m tx ao xs.length q1 ap l2 q2
  have HW0 := Lib.hid hW0
  have HB0 := Lib.hid hb0
  have H := Lib.hid (h.keep (Kep.of hb0))
  have HSS := Lib.hid HS
  obtain ⟨a0, a1, a2, a3, a4, a5⟩ := cells6 hk0
  obtain ⟨n, hn⟩ : ∃ n, n = xs.length := ⟨_, rfl⟩
  have HN : Hid (xs.length = n) := hn.symm
  rw [← hn] at a4 H ⊢ HW0
  have hnl : n ≤ 1000000 := by omega
  clear hW0 hb0 hk0 h HS hn hl
  go_enter Tryz.func15, Tryz.ntmps15
  go_upto_region 1 with (fail)
  rw [← HW0.out]
  go_wp2
  clear a0 a1 a2 a3 a4 a5
  go_loopw [3, 15] (fun dv iv wr => ∃ j : Nat, j ≤ n ∧ iv = .int .i64 j ∧ dv = .int .i64 (depL (xs.take j) : Nat) ∧ Hid (Below W0.heap.size W0 wr)) (fun _ iv _ => n - (intOf iv).toNat)
  case atStart => exact ⟨0, by omega, rfl, by simp [depL], Lib.hid (Below.refl _ _)⟩
  case round =>
    obtain ⟨j, hj, rfl, rfl, HB⟩ := hrel
    have hdl := depL_le (xs := xs) j
    by_cases hlt : j < n
    · have HX1 := Lib.hid (show j < xs.length by rw [HN.out]; exact hlt)
      obtain ⟨g1, o1, rfl, hg1, hat1⟩ := (H.out.keep (Kep.of HB.out)).at (by have := HX1.out; omega)
      have hj0 : (0 : Int) ≤ (j : Int) := by omega
      have hjl : (j : Int) < (n : Int) := by omega
      obtain ⟨ca, hca, hra⟩ := hat1 j HX1.out
      have HTK := Lib.hid (depL_take HX1.out)
      have hdj := dep_mem HX1.out
      obtain ⟨⟨k, is', nn, t, ixs, iks⟩, hx⟩ : ∃ x, xs[j]'HX1.out = x := ⟨_, rfl⟩
      have HCC := Lib.hid (fun W => HSS.out j HX1.out W)
      rw [hx] at hra HTK hdj HCC
      obtain ⟨ao', q1', ap', q2', rfl, _⟩ := rep_c6 hra
      obtain ⟨p0, p1, p2, p3, p4, p5⟩ := cs6 hca
      obtain ⟨W1, hW1, hk1, hb1⟩ := one_v6 wr k is' nn (mkS t) ao' ixs.length q1' ap' iks.length q2'
      have HW1 := Lib.hid hW1
      have HK1 := Lib.hid hk1
      have HB1 := Lib.hid (btr HB.out hb1)
      have HCS := Lib.hid (HCC.out W1 _ (Rep.keep (Kep.of hb1) _ hra))
      have hn1 : g1 ≠ wr.heap.size := by omega
      generalize dep (JV.mk k is' nn t ixs iks) = D at HCS HTK hdj
      unfold DpQ at HCS
      clear hat1 hca hra hx HCC hW1 hk1 hb1 HB
      go_upto_region 8 with (fail)
      rw [← HW1.out]
      clear p0 p1 p2 p3 p4 p5
      obtain ⟨p0, p1, p2, p3, p4, p5⟩ := cells6 HK1.out
      go_wp2_with fail
      (with_reducible refine HCS.out.mono ?_)
      rintro e w4 ⟨rfl, hb4⟩
      have HB4 := Lib.hid (btr HB1.out hb4)
      clear hb4 p0 p1 p2 p3 p4 p5
      go_wp2
      go_roundw
      case rel => exact ⟨j + 1, by omega, by go_num, by rw [HTK.out]; congr 1; omega, HB4⟩
      case measure => simp [intOf]; omega
    · have hjl : ¬ (j : Int) < (n : Int) := by omega
      have hjn : j = n := by omega
      have HF : Hid (depL (xs.take j) = depL xs) := by
        show _ = _
        rw [hjn, ← HN.out, List.take_of_length_le (Nat.le_refl _)]
      have HBF := Lib.hid (btr HB0.out HB.out)
      generalize depL (xs.take j) = D at HF hdl ⊢
      clear hjn HB
      go_wp2
      go_ret
      exact ⟨by rw [← HF.out]; simp, HBF.out⟩
theorem depth_all : ∀ (n : Nat) (x : JV), dep x ≤ n → dep x ≤ 1000000 → wid x ≤ 1000000 → ∀ (P : Nat → Prop) (W : World) (ca : List Value), Rep P W x ca → Calls Tryz.prog 15 #[.agg ca.toArray] W (DpQ (dep x) W)
  | n, .mk k is m t xs ks, hd, hd2, hw, P, W, ca, ha => by
    obtain ⟨ao, q1, ap, q2, rfl, hka, hla⟩ := rep_c6 ha
    rw [wid] at hw
    by_cases hk : k = 4 ∨ k = 5
    · rw [dep, if_pos hk] at hd hd2 ⊢
      obtain ⟨n', rfl⟩ : ∃ n', n = n' + 1 := ⟨n - 1, by omega⟩
      have HS : ∀ i (hi : i < xs.length) (V : World) (ca : List Value), Rep P V xs[i] ca → Calls Tryz.prog 15 #[.agg ca.toArray] V (DpQ (dep xs[i]) V) := fun i hi V ca hra =>
        depth_all n' xs[i] (by have := dep_mem hi; omega) (by have := dep_mem hi; omega) (by have := wid_mem hi; omega) P V ca hra
      rcases hk with rfl | rfl
      · exact dp_4 is m (mkS t) ao q1 ap ks.length q2 P xs W (isvs hla) (by omega) (by omega) HS
      · exact dp_5 is m (mkS t) ao q1 ap ks.length q2 P xs W (isvs hla) (by omega) (by omega) HS
    · rw [dep, if_neg hk]
      exact dp_o k is m (mkS t) ao xs.length q1 ap ks.length q2 W (by omega)
theorem Depth_c {P : Nat → Prop} {x : JV} {ca : List Value} {w : World} (ha : Rep P w x ca) (hw : wid x ≤ 1000000) (hd : dep x ≤ 1000000) : Calls Tryz.prog 15 #[.agg ca.toArray] w (DpQ (dep x) w) :=
  depth_all (dep x) x (Nat.le_refl _) hd hw P w ca ha
end Go.Proofs.YtpgllcdcpdeicaaGreatDoor.Jv
namespace Go.Proofs.YtpgllcdcpdeicaaGreatDoor.Jv
open Jt
open Go.RowKit Go.ChangeMaps Go.MapKept Go.WideMaps
set_option linter.unusedSimpArgs false
set_option linter.unusedVariables false

def exL : List UInt8 := [123, 34, 97, 34, 58, 91, 49, 44, 123, 125, 93, 125]
theorem ex1 : (parseP exL 3).2.2 = 0 := by decide +kernel
theorem ex2 : dep (parseP exL 3).1 = 3 := by decide +kernel
theorem ex3 : (parseP exL 2).2.2 = 4 := by decide +kernel
theorem ex4 : (parseP exL 2).2.1 = 8 := by decide +kernel
set_option maxRecDepth 100000 in
set_option maxHeartbeats 1000000 in
theorem awake_c (w : World) (hE : Env w) : Calls Tryz.prog 8 #[] w fun e w' => e = .returned (.bool true) ∧ Below w.heap.size w w' := by
  have HE := Lib.hid hE
  have HP1 := Lib.hid (Parse_c ⟨#[123, 34, 97, 34, 58, 91, 49, 44, 123, 125, 93, 125]⟩ 3 w hE (by decide))
  rw [show (ByteArray.mk #[123, 34, 97, 34, 58, 91, 49, 44, 123, 125, 93, 125]).data.toList = exL from rfl] at HP1
  have hwd := parse_wid exL 3
  have hlx : exL.length = 12 := rfl
  rw [hlx] at hwd
  unfold PaQ at HP1
  rw [ex1] at HP1
  clear hE hlx
  go_enter Tryz.func8, Tryz.ntmps8
  go_wp2_with fail
  (with_reducible refine HP1.out.mono ?_)
  rintro e w1 ⟨xk, xb, xn, xt, xo, xl, xq, yo, yl, yq, rfl, hrep, hb1⟩
  obtain ⟨W1, hW1, hk1, hc1⟩ := one_v6 w1 xk xb xn xt xo xl xq yo yl yq
  have HW1 := Lib.hid hW1
  have HK1 := Lib.hid hk1
  have HB1 := Lib.hid (btr hb1 hc1)
  have HR1 := Lib.hid (Rep.keep (Kep.of hc1) _ hrep)
  have HP2 := Lib.hid (Parse_c ⟨#[123, 34, 97, 34, 58, 91, 49, 44, 123, 125, 93, 125]⟩ 2 W1 (HE.out.go HB1.out) (by decide))
  rw [show (ByteArray.mk #[123, 34, 97, 34, 58, 91, 49, 44, 123, 125, 93, 125]).data.toList = exL from rfl] at HP2
  unfold PaQ at HP2
  rw [ex3, ex4] at HP2
  have HWD := Lib.hid hwd
  clear hrep hb1 hW1 hk1 hc1 hwd HP1
  go_upto_region 2 with (fail)
  rw [← HW1.out]
  go_wp2_with fail
  (with_reducible refine HP2.out.mono ?_)
  rintro e w2 ⟨zk, zb, zn, zt, zo, zl, zq, uo, ul, uq, rfl, -, hb2⟩
  obtain ⟨W2, hW2, hk2, hc2⟩ := one_v6 w2 zk zb zn zt zo zl zq uo ul uq
  have HW2 := Lib.hid hW2
  have hbb := btr hb2 hc2
  have HB2 := Lib.hid (btr HB1.out hbb)
  have HR2 := Lib.hid (Rep.keep (Kep.of hbb) _ HR1.out)
  have HK2 : Hid (W2.heap[w1.heap.size]? = some (obV xk xb xn xt xo xl xq yo yl yq)) := (hbb.block _ (Array.getElem?_eq_some_iff.1 HK1.out).1).trans HK1.out
  have HD := Lib.hid (Depth_c HR2.out (by have := HWD.out; omega) (by rw [ex2]; decide))
  rw [ex2] at HD
  unfold DpQ at HD
  obtain ⟨a0, a1, a2, a3, a4, a5⟩ := cells6 HK2.out
  clear hb2 hW2 hk2 hc2 hbb HP2
  go_upto_region 3 with (fail)
  rw [← HW2.out]
  go_wp2_with fail
  (with_reducible refine HD.out.mono ?_)
  rintro e w3 ⟨rfl, hb3⟩
  have HB3 := Lib.hid (btr HB2.out hb3)
  clear hb3 a0 a1 a2 a3 a4 a5
  go_wp2
  go_ret
  exact ⟨rfl, HB3.out⟩
end Go.Proofs.YtpgllcdcpdeicaaGreatDoor.Jv
