/- The law JvalParse answers yes. -/
import Derived.Test.YtpgllcdcpdeicaaGreatDoorJvGs
import Derived.Test.YtpgllcdcpdeicaaGreatDoorJvGt
import Derived.Deep.RegionWith
import Derived.Deep.DeepCutAuto
namespace Go.Proofs.YtpgllcdcpdeicaaGreatDoor.Jv
open Jt
open Go.RowKit Go.ChangeMaps Go.MapKept Go.WideMaps
set_option linter.unusedSimpArgs false
set_option linter.unusedVariables false

theorem bxkeep2 {B C : Nat} {V V' : World} {a b : Obj} (hb : Below V.heap.size V V') (h0 : V.heap[B]? = some a) (h1 : V.heap[C]? = some b) : V'.heap[B]? = some a ∧ V'.heap[C]? = some b :=
  ⟨(hb.block _ (Array.getElem?_eq_some_iff.1 h0).1).trans h0, (hb.block _ (Array.getElem?_eq_some_iff.1 h1).1).trans h1⟩
set_option maxRecDepth 100000 in
set_option maxHeartbeats 8000000 in
theorem parse_law (x0 : ByteArray) (d : Int) (w : World) (hx : x0.size ≤ maxLen) (hE : Env w) :
    Calls Tryz.prog 3 #[.string x0, .int .i64 d] w fun e w' => e = .returned (.bool true) ∧ Below w.heap.size w w' := by
  unfold maxLen at hx
  have HE := Lib.hid hE
  by_cases hbg : 150 < x0.size
  · obtain ⟨s, hs⟩ : ∃ s, s = x0.extract 0 150 := ⟨_, rfl⟩
    have hsz : s.size ≤ 150 := by rw [hs, ByteArray.size_extract]; omega
    have HXS := Lib.hid hs
    have h150 : (150 : Int) < (x0.size : Int) := by omega
    have HP := Lib.hid (Parse_c s d w hE (by omega))
    have hwd := parse_wid s.data.toList d
    rw [← size_l s] at hwd
    obtain ⟨R, hR⟩ : ∃ R, parseP s.data.toList d = R := ⟨_, rfl⟩
    unfold PaQ at HP
    rw [hR] at HP hwd
    obtain ⟨v, p, er⟩ := R
    dsimp only at HP hwd
    have hw1 : wid v ≤ 100000 := by omega
    have hw6 : wid v ≤ 1000000 := by omega
    clear hs hE hwd
    go_enter Tryz.func3, Tryz.ntmps3
    go_wp2_with fail
    rw [← HXS.out]
    clear HXS h150
    (with_reducible refine HP.out.mono ?_)
    rintro e w1 ⟨xk, xb, xn, xt, xo, xl, xq, xp, xr, xs, rfl, hrep, hb1⟩
    obtain ⟨W1, hW1, hk1, hc1⟩ := one_v6 w1 xk xb xn xt xo xl xq xp xr xs
    have HW1 := Lib.hid hW1
    have HK1 := Lib.hid hk1
    have HBW1 := Lib.hid (btr hb1 hc1)
    have HX1 := Lib.hid (Rep.keep (Kep.of hc1) _ hrep)
    have HP2 := Lib.hid (RParse_c s d W1 (by omega))
    unfold PaQ at HP2
    rw [hR] at HP2
    try dsimp only at HP2
    try dsimp only at HX1
    clear hrep hb1 hW1 hk1 hc1 HP
    go_upto_region 4 with (fail)
    rw [← HW1.out]
    go_wp2_with fail
    (with_reducible refine HP2.out.mono ?_)
    rintro e w2 ⟨yk, yb, yn, yt, yo, yl, yq, yp, yr, ys, rfl, hrep, hb2⟩
    obtain ⟨W2, hW2, hk2, hc2⟩ := one_r w2 yk yb yn yt yo yl yq yp yr ys
    have HW2 := Lib.hid hW2
    have hbb := btr hb2 hc2
    have HB2 := Lib.hid (btr HBW1.out hbb)
    have HX2 := Lib.hid (Rep.keep (Kep.of hbb) _ HX1.out)
    have HY2 := Lib.hid (Rep.keep (Kep.of hc2) _ hrep)
    have hS0 : (fun V : World => V.heap[w1.heap.size]? = some (obV xk xb xn xt xo xl xq xp xr xs) ∧ V.heap[w2.heap.size]? = some (obR yk yb yn yt yo yl yq yp yr ys)) W2.drew := ⟨(hbb.block _ (Array.getElem?_eq_some_iff.1 HK1.out).1).trans HK1.out, hk2⟩
    obtain ⟨V9, hV9⟩ : ∃ V9, V9 = W2.drew := ⟨_, rfl⟩
    have hd9 : Below W2.heap.size W2 V9 := by rw [hV9]; exact (Below.refl _ _).drew
    have HB9 := Lib.hid (btr HB2.out hd9)
    have HX9 := Lib.hid (Rep.keep (Kep.of hd9) _ HX2.out)
    have HY9 := Lib.hid (Rep.keep (Kep.of hd9) _ HY2.out)
    have hS9 : (fun V : World => V.heap[w1.heap.size]? = some (obV xk xb xn xt xo xl xq xp xr xs) ∧ V.heap[w2.heap.size]? = some (obR yk yb yn yt yo yl yq yp yr ys)) V9 := by rw [hV9]; exact hS0
    try dsimp only at HY9
    clear hrep hb2 hW2 hk2 hc2 hbb hd9 HP2 HX1 HX2 HY2 HB2 HK1
    go_upto_region 5 with (fail)
    rw [← HW2.out]
    refine wp_region_held_drew (S := (fun V : World => V.heap[w1.heap.size]? = some (obV xk xb xn xt xo xl xq xp xr xs) ∧ V.heap[w2.heap.size]? = some (obR yk yb yn yt yo yl yq yp yr ys))) (by kernel_rfl) hS0 (fun hHeld => ?_)
    rw [← hV9] at hHeld ⊢
    clear hV9 hS0 hHeld
    refine wpAnyH_take (i := 0) (oi := ?o0) (v := ?v0) ?e0 ?a0 ?b0 ?c0 ?q0 (Or.inl ⟨?w0, ?h0⟩) ?s0 ?r0
    case e0 => (simp only [List.getElem?_toArray, List.getElem?_cons_zero, List.getElem?_cons_succ]; rfl)
    case a0 => kernel_rfl
    case b0 => kernel_rfl
    case c0 => kernel_rfl
    case q0 => exact fun _ _ _ h => h
    case w0 => rfl
    case s0 => assumption
    case h0 => (intro W hSw; obtain ⟨hSa, hSb⟩ := hSw; obtain ⟨a0, a1, a2, a3, a4, a5⟩ := cells6 hSa; obtain ⟨b0, b1, b2, b3, b4, b5⟩ := cells6 hSb; go_simp; try with_reducible rfl)
    try simp only [Act.put, List.setIfInBounds_toArray, List.set_cons_zero, List.set_cons_succ]
    refine wpAnyH_take (i := 1) (oi := ?o1) (v := ?v1) ?e1 ?a1 ?b1 ?c1 ?q1 (Or.inl ⟨?w1, ?h1⟩) ?s1 ?r1
    case e1 => (simp only [List.getElem?_toArray, List.getElem?_cons_zero, List.getElem?_cons_succ]; rfl)
    case a1 => kernel_rfl
    case b1 => kernel_rfl
    case c1 => kernel_rfl
    case q1 => exact fun _ _ _ h => h
    case w1 => rfl
    case s1 => assumption
    case h1 => (intro W hSw; obtain ⟨hSa, hSb⟩ := hSw; obtain ⟨a0, a1, a2, a3, a4, a5⟩ := cells6 hSa; obtain ⟨b0, b1, b2, b3, b4, b5⟩ := cells6 hSb; go_simp; try with_reducible rfl)
    try simp only [Act.put, List.setIfInBounds_toArray, List.set_cons_zero, List.set_cons_succ]
    refine wpAnyH_take (i := 2) (oi := ?o2) (v := ?v2) ?e2 ?a2 ?b2 ?c2 ?q2 (Or.inl ⟨?w2, ?h2⟩) ?s2 ?r2
    case e2 => (simp only [List.getElem?_toArray, List.getElem?_cons_zero, List.getElem?_cons_succ]; rfl)
    case a2 => kernel_rfl
    case b2 => kernel_rfl
    case c2 => kernel_rfl
    case q2 => exact fun _ _ _ h => h
    case w2 => rfl
    case s2 => assumption
    case h2 => (intro W hSw; obtain ⟨hSa, hSb⟩ := hSw; obtain ⟨a0, a1, a2, a3, a4, a5⟩ := cells6 hSa; obtain ⟨b0, b1, b2, b3, b4, b5⟩ := cells6 hSb; go_simp; try with_reducible rfl)
    try simp only [Act.put, List.setIfInBounds_toArray, List.set_cons_zero, List.set_cons_succ]
    try simp only [beq_self_eq_true]
    refine wpAnyH_take (i := 3) (oi := ?o3) (v := ?v3) ?e3 ?a3 ?b3 ?c3 ?q3 (Or.inl ⟨?w3, ?h3⟩) ?s3 ?r3
    case e3 => (simp only [List.getElem?_toArray, List.getElem?_cons_zero, List.getElem?_cons_succ]; rfl)
    case a3 => kernel_rfl
    case b3 => kernel_rfl
    case c3 => kernel_rfl
    case q3 => exact fun _ _ _ h => h
    case w3 => rfl
    case s3 => assumption
    case h3 => (intro W hSw; obtain ⟨hSa, hSb⟩ := hSw; obtain ⟨a0, a1, a2, a3, a4, a5⟩ := cells6 hSa; obtain ⟨b0, b1, b2, b3, b4, b5⟩ := cells6 hSb; go_simp; try with_reducible rfl)
    try simp only [Act.put, List.setIfInBounds_toArray, List.set_cons_zero, List.set_cons_succ]
    refine wpAnyH_take (i := 4) (oi := ?o4) (v := ?v4) ?e4 ?a4 ?b4 ?c4 ?q4 (Or.inl ⟨?w4, ?h4⟩) ?s4 ?r4
    case e4 => (simp only [List.getElem?_toArray, List.getElem?_cons_zero, List.getElem?_cons_succ]; rfl)
    case a4 => kernel_rfl
    case b4 => kernel_rfl
    case c4 => kernel_rfl
    case q4 => exact fun _ _ _ h => h
    case w4 => rfl
    case s4 => assumption
    case h4 => (intro W hSw; obtain ⟨hSa, hSb⟩ := hSw; obtain ⟨a0, a1, a2, a3, a4, a5⟩ := cells6 hSa; obtain ⟨b0, b1, b2, b3, b4, b5⟩ := cells6 hSb; go_simp; try with_reducible rfl)
    try simp only [Act.put, List.setIfInBounds_toArray, List.set_cons_zero, List.set_cons_succ]
    refine wpAnyH_take (i := 5) (oi := ?o5) (v := ?v5) ?e5 ?a5 ?b5 ?c5 ?q5 (Or.inl ⟨?w5, ?h5⟩) ?s5 ?r5
    case e5 => (simp only [List.getElem?_toArray, List.getElem?_cons_zero, List.getElem?_cons_succ]; rfl)
    case a5 => kernel_rfl
    case b5 => kernel_rfl
    case c5 => kernel_rfl
    case q5 => exact fun _ _ _ h => h
    case w5 => rfl
    case s5 => assumption
    case h5 => (intro W hSw; obtain ⟨hSa, hSb⟩ := hSw; obtain ⟨a0, a1, a2, a3, a4, a5⟩ := cells6 hSa; obtain ⟨b0, b1, b2, b3, b4, b5⟩ := cells6 hSb; go_simp; try with_reducible rfl)
    try simp only [Act.put, List.setIfInBounds_toArray, List.set_cons_zero, List.set_cons_succ]
    refine wpAnyH_take (i := 6) (oi := ?o6) (v := ?v6) ?e6 ?a6 ?b6 ?c6 ?q6 (Or.inl ⟨?w6, ?h6⟩) ?s6 ?r6
    case e6 => (simp only [List.getElem?_toArray, List.getElem?_cons_zero, List.getElem?_cons_succ]; rfl)
    case a6 => kernel_rfl
    case b6 => kernel_rfl
    case c6 => kernel_rfl
    case q6 => exact fun _ _ _ h => h
    case w6 => rfl
    case s6 => assumption
    case h6 => (intro W hSw; obtain ⟨hSa, hSb⟩ := hSw; obtain ⟨a0, a1, a2, a3, a4, a5⟩ := cells6 hSa; obtain ⟨b0, b1, b2, b3, b4, b5⟩ := cells6 hSb; go_simp; try with_reducible rfl)
    try simp only [Act.put, List.setIfInBounds_toArray, List.set_cons_zero, List.set_cons_succ]
    try simp only [beq_self_eq_true]
    refine wpAnyH_take (i := 7) (oi := ?o7) (v := ?v7) ?e7 ?a7 ?b7 ?c7 ?q7 (Or.inl ⟨?w7, ?h7⟩) ?s7 ?r7
    case e7 => (simp only [List.getElem?_toArray, List.getElem?_cons_zero, List.getElem?_cons_succ]; rfl)
    case a7 => kernel_rfl
    case b7 => kernel_rfl
    case c7 => kernel_rfl
    case q7 => exact fun _ _ _ h => h
    case w7 => rfl
    case s7 => assumption
    case h7 => (intro W hSw; obtain ⟨hSa, hSb⟩ := hSw; obtain ⟨a0, a1, a2, a3, a4, a5⟩ := cells6 hSa; obtain ⟨b0, b1, b2, b3, b4, b5⟩ := cells6 hSb; go_simp; try with_reducible rfl)
    try simp only [Act.put, List.setIfInBounds_toArray, List.set_cons_zero, List.set_cons_succ]
    refine wpAnyH_take (i := 8) (oi := ?o8) (v := ?v8) ?e8 ?a8 ?b8 ?c8 ?q8 (Or.inl ⟨?w8, ?h8⟩) ?s8 ?r8
    case e8 => (simp only [List.getElem?_toArray, List.getElem?_cons_zero, List.getElem?_cons_succ]; rfl)
    case a8 => kernel_rfl
    case b8 => kernel_rfl
    case c8 => kernel_rfl
    case q8 => exact fun _ _ _ h => h
    case w8 => rfl
    case s8 => assumption
    case h8 => (intro W hSw; obtain ⟨hSa, hSb⟩ := hSw; obtain ⟨a0, a1, a2, a3, a4, a5⟩ := cells6 hSa; obtain ⟨b0, b1, b2, b3, b4, b5⟩ := cells6 hSb; go_simp; try with_reducible rfl)
    try simp only [Act.put, List.setIfInBounds_toArray, List.set_cons_zero, List.set_cons_succ]
    refine wpAnyH_take (i := 9) (oi := ?o9) (v := ?v9) ?e9 ?a9 ?b9 ?c9 ?q9 (Or.inl ⟨?w9, ?h9⟩) ?s9 ?r9
    case e9 => (simp only [List.getElem?_toArray, List.getElem?_cons_zero, List.getElem?_cons_succ]; rfl)
    case a9 => kernel_rfl
    case b9 => kernel_rfl
    case c9 => kernel_rfl
    case q9 => exact fun _ _ _ h => h
    case w9 => rfl
    case s9 => assumption
    case h9 => (intro W hSw; obtain ⟨hSa, hSb⟩ := hSw; obtain ⟨a0, a1, a2, a3, a4, a5⟩ := cells6 hSa; obtain ⟨b0, b1, b2, b3, b4, b5⟩ := cells6 hSb; go_simp; try with_reducible rfl)
    try simp only [Act.put, List.setIfInBounds_toArray, List.set_cons_zero, List.set_cons_succ]
    refine wpAnyH_take (i := 11) (oi := ?o11) (v := ?v11) ?e11 ?a11 ?b11 ?c11 ?q11 (Or.inl ⟨?w11, ?h11⟩) ?s11 ?r11
    case e11 => (simp only [List.getElem?_toArray, List.getElem?_cons_zero, List.getElem?_cons_succ]; rfl)
    case a11 => kernel_rfl
    case b11 => kernel_rfl
    case c11 => kernel_rfl
    case q11 => exact fun _ _ _ h => h
    case w11 => rfl
    case s11 => assumption
    case h11 => (intro W hSw; obtain ⟨hSa, hSb⟩ := hSw; obtain ⟨a0, a1, a2, a3, a4, a5⟩ := cells6 hSa; obtain ⟨b0, b1, b2, b3, b4, b5⟩ := cells6 hSb; go_simp; try with_reducible rfl)
    try simp only [Act.put, List.setIfInBounds_toArray, List.set_cons_zero, List.set_cons_succ]
    refine wpAnyH_ready (rs := [10]) (by kernel_rfl) (by simp) (AllReadyH.cons (o := ?o10z10) ?e10z10 (fun K hK => ?k10z10) AllReadyH.nil)
    case e10z10 => (simp only [List.getElem?_toArray, List.getElem?_cons_zero, List.getElem?_cons_succ]; rfl)
    go_simp
    (with_reducible refine (Plain_c HX9.out hw1).mono ?_)
    rintro e V1 ⟨ok, ob, on, ot, oo, ol, oq, op, or, os, rfl, hrA, hbA⟩
    have HRA := Lib.hid hrA
    have HB1 := Lib.hid (btr HB9.out hbA)
    have HY1 := Lib.hid (Rep.keep (Kep.of hbA) _ HY9.out)
    have hS1 : (fun V : World => V.heap[w1.heap.size]? = some (obV xk xb xn xt xo xl xq xp xr xs) ∧ V.heap[w2.heap.size]? = some (obR yk yb yn yt yo yl yq yp yr ys)) V1 := bxkeep2 hbA hS9.1 hS9.2
    clear hrA hbA
    go_wp2_with fail
    refine hK.out _ _ hS1 (fun _ => ?_)
    clear hK K
    try simp only [Act.put, List.setIfInBounds_toArray, List.set_cons_zero, List.set_cons_succ]
    refine wpAnyH_ready (rs := [12]) (by kernel_rfl) (by simp) (AllReadyH.cons (o := ?o12z12) ?e12z12 (fun K hK => ?k12z12) AllReadyH.nil)
    case e12z12 => (simp only [List.getElem?_toArray, List.getElem?_cons_zero, List.getElem?_cons_succ]; rfl)
    go_simp
    have hcS := RSame_c HRA.out HY1.out hw6 hw6
    rw [smJ_refl] at hcS
    unfold SmQ at hcS
    (with_reducible refine hcS.mono ?_)
    clear hcS
    rintro e V2 ⟨rfl, hbB⟩
    have HB2 := Lib.hid (btr HB1.out hbB)
    have hS2 : (fun V : World => V.heap[w1.heap.size]? = some (obV xk xb xn xt xo xl xq xp xr xs) ∧ V.heap[w2.heap.size]? = some (obR yk yb yn yt yo yl yq yp yr ys)) V2 := bxkeep2 hbB hS1.1 hS1.2
    clear hbB
    go_wp2_with fail
    refine hK.out _ _ hS2 (fun _ => ?_)
    clear hK K
    try simp only [Act.put, List.setIfInBounds_toArray, List.set_cons_zero, List.set_cons_succ]
    refine wpAnyH_take (i := 13) (oi := ?o13) (v := ?v13) ?e13 ?a13 ?b13 ?c13 ?q13 (Or.inl ⟨?w13, ?h13⟩) ?s13 ?r13
    case e13 => (simp only [List.getElem?_toArray, List.getElem?_cons_zero, List.getElem?_cons_succ]; rfl)
    case a13 => kernel_rfl
    case b13 => kernel_rfl
    case c13 => kernel_rfl
    case q13 => exact fun _ _ _ h => h
    case w13 => rfl
    case s13 => assumption
    case h13 => (intro W hSw; obtain ⟨hSa, hSb⟩ := hSw; obtain ⟨a0, a1, a2, a3, a4, a5⟩ := cells6 hSa; obtain ⟨b0, b1, b2, b3, b4, b5⟩ := cells6 hSb; go_simp; try with_reducible rfl)
    try simp only [Act.put, List.setIfInBounds_toArray, List.set_cons_zero, List.set_cons_succ]
    refine wpAnyH_take (i := 14) (oi := ?o14) (v := ?v14) ?e14 ?a14 ?b14 ?c14 ?q14 (Or.inl ⟨?w14, ?h14⟩) ?s14 ?r14
    case e14 => (simp only [List.getElem?_toArray, List.getElem?_cons_zero, List.getElem?_cons_succ]; rfl)
    case a14 => kernel_rfl
    case b14 => kernel_rfl
    case c14 => kernel_rfl
    case q14 => exact fun _ _ _ h => h
    case w14 => rfl
    case s14 => assumption
    case h14 => (intro W hSw; obtain ⟨hSa, hSb⟩ := hSw; obtain ⟨a0, a1, a2, a3, a4, a5⟩ := cells6 hSa; obtain ⟨b0, b1, b2, b3, b4, b5⟩ := cells6 hSb; go_simp; try with_reducible rfl)
    try simp only [Act.put, List.setIfInBounds_toArray, List.set_cons_zero, List.set_cons_succ]
    refine wpAnyH_ready (rs := [15]) (by kernel_rfl) (by simp) (AllReadyH.cons (o := ?o15z15) ?e15z15 (fun K hK => ?k15z15) AllReadyH.nil)
    case e15z15 => (simp only [List.getElem?_toArray, List.getElem?_cons_zero, List.getElem?_cons_succ]; rfl)
    go_simp
    (with_reducible refine (awake_c _ (Env.go HE.out HB2.out)).mono ?_)
    rintro e V3 ⟨rfl, hbC⟩
    have HB3 := Lib.hid (btr HB2.out hbC)
    have hS3 : (fun V : World => V.heap[w1.heap.size]? = some (obV xk xb xn xt xo xl xq xp xr xs) ∧ V.heap[w2.heap.size]? = some (obR yk yb yn yt yo yl yq yp yr ys)) V3 := bxkeep2 hbC hS2.1 hS2.2
    clear hbC
    go_wp2_with fail
    refine hK.out _ _ hS3 (fun _ => ?_)
    clear hK K
    try simp only [Act.put, List.setIfInBounds_toArray, List.set_cons_zero, List.set_cons_succ]
    refine wpAnyH_take (i := 16) (oi := ?o16) (v := ?v16) ?e16 ?a16 ?b16 ?c16 ?q16 (Or.inl ⟨?w16, ?h16⟩) ?s16 ?r16
    case e16 => (simp only [List.getElem?_toArray, List.getElem?_cons_zero, List.getElem?_cons_succ]; rfl)
    case a16 => kernel_rfl
    case b16 => kernel_rfl
    case c16 => kernel_rfl
    case q16 => exact fun _ _ _ h => h
    case w16 => rfl
    case s16 => assumption
    case h16 => (intro W hSw; obtain ⟨hSa, hSb⟩ := hSw; obtain ⟨a0, a1, a2, a3, a4, a5⟩ := cells6 hSa; obtain ⟨b0, b1, b2, b3, b4, b5⟩ := cells6 hSb; go_simp; try with_reducible rfl)
    try simp only [Act.put, List.setIfInBounds_toArray, List.set_cons_zero, List.set_cons_succ]
    refine wpAnyH_take (i := 17) (oi := ?o17) (v := ?v17) ?e17 ?a17 ?b17 ?c17 ?q17 (Or.inl ⟨?w17, ?h17⟩) ?s17 ?r17
    case e17 => (simp only [List.getElem?_toArray, List.getElem?_cons_zero, List.getElem?_cons_succ]; rfl)
    case a17 => kernel_rfl
    case b17 => kernel_rfl
    case c17 => kernel_rfl
    case q17 => exact fun _ _ _ h => h
    case w17 => rfl
    case s17 => assumption
    case h17 => (intro W hSw; obtain ⟨hSa, hSb⟩ := hSw; obtain ⟨a0, a1, a2, a3, a4, a5⟩ := cells6 hSa; obtain ⟨b0, b1, b2, b3, b4, b5⟩ := cells6 hSb; go_simp; try with_reducible rfl)
    try simp only [Act.put, List.setIfInBounds_toArray, List.set_cons_zero, List.set_cons_succ]
    refine wpAnyH_done (by kernel_rfl) ?_ _
    go_wp2
    go_ret
    exact ⟨rfl, HB3.out⟩
  · have hsz : x0.size ≤ 150 := by omega
    have h150 : ¬ (150 : Int) < (x0.size : Int) := by omega
    obtain ⟨s, hs⟩ : ∃ s, s = x0 := ⟨_, rfl⟩
    subst hs
    have HP := Lib.hid (Parse_c s d w hE (by omega))
    have hwd := parse_wid s.data.toList d
    rw [← size_l s] at hwd
    obtain ⟨R, hR⟩ : ∃ R, parseP s.data.toList d = R := ⟨_, rfl⟩
    unfold PaQ at HP
    rw [hR] at HP hwd
    obtain ⟨v, p, er⟩ := R
    dsimp only at HP hwd
    have hw1 : wid v ≤ 100000 := by omega
    have hw6 : wid v ≤ 1000000 := by omega
    clear hE hwd
    go_enter Tryz.func3, Tryz.ntmps3
    go_wp2_with fail
    clear h150
    (with_reducible refine HP.out.mono ?_)
    rintro e w1 ⟨xk, xb, xn, xt, xo, xl, xq, xp, xr, xs, rfl, hrep, hb1⟩
    obtain ⟨W1, hW1, hk1, hc1⟩ := one_v6 w1 xk xb xn xt xo xl xq xp xr xs
    have HW1 := Lib.hid hW1
    have HK1 := Lib.hid hk1
    have HBW1 := Lib.hid (btr hb1 hc1)
    have HX1 := Lib.hid (Rep.keep (Kep.of hc1) _ hrep)
    have HP2 := Lib.hid (RParse_c s d W1 (by omega))
    unfold PaQ at HP2
    rw [hR] at HP2
    try dsimp only at HP2
    try dsimp only at HX1
    clear hrep hb1 hW1 hk1 hc1 HP
    go_upto_region 4 with (fail)
    rw [← HW1.out]
    go_wp2_with fail
    (with_reducible refine HP2.out.mono ?_)
    rintro e w2 ⟨yk, yb, yn, yt, yo, yl, yq, yp, yr, ys, rfl, hrep, hb2⟩
    obtain ⟨W2, hW2, hk2, hc2⟩ := one_r w2 yk yb yn yt yo yl yq yp yr ys
    have HW2 := Lib.hid hW2
    have hbb := btr hb2 hc2
    have HB2 := Lib.hid (btr HBW1.out hbb)
    have HX2 := Lib.hid (Rep.keep (Kep.of hbb) _ HX1.out)
    have HY2 := Lib.hid (Rep.keep (Kep.of hc2) _ hrep)
    have hS0 : (fun V : World => V.heap[w1.heap.size]? = some (obV xk xb xn xt xo xl xq xp xr xs) ∧ V.heap[w2.heap.size]? = some (obR yk yb yn yt yo yl yq yp yr ys)) W2.drew := ⟨(hbb.block _ (Array.getElem?_eq_some_iff.1 HK1.out).1).trans HK1.out, hk2⟩
    obtain ⟨V9, hV9⟩ : ∃ V9, V9 = W2.drew := ⟨_, rfl⟩
    have hd9 : Below W2.heap.size W2 V9 := by rw [hV9]; exact (Below.refl _ _).drew
    have HB9 := Lib.hid (btr HB2.out hd9)
    have HX9 := Lib.hid (Rep.keep (Kep.of hd9) _ HX2.out)
    have HY9 := Lib.hid (Rep.keep (Kep.of hd9) _ HY2.out)
    have hS9 : (fun V : World => V.heap[w1.heap.size]? = some (obV xk xb xn xt xo xl xq xp xr xs) ∧ V.heap[w2.heap.size]? = some (obR yk yb yn yt yo yl yq yp yr ys)) V9 := by rw [hV9]; exact hS0
    try dsimp only at HY9
    clear hrep hb2 hW2 hk2 hc2 hbb hd9 HP2 HX1 HX2 HY2 HB2 HK1
    go_upto_region 5 with (fail)
    rw [← HW2.out]
    refine wp_region_held_drew (S := (fun V : World => V.heap[w1.heap.size]? = some (obV xk xb xn xt xo xl xq xp xr xs) ∧ V.heap[w2.heap.size]? = some (obR yk yb yn yt yo yl yq yp yr ys))) (by kernel_rfl) hS0 (fun hHeld => ?_)
    rw [← hV9] at hHeld ⊢
    clear hV9 hS0 hHeld
    refine wpAnyH_take (i := 0) (oi := ?o0g1) (v := ?v0g1) ?e0g1 ?a0g1 ?b0g1 ?c0g1 ?q0g1 (Or.inl ⟨?w0g1, ?h0g1⟩) ?s0g1 ?r0g1
    case e0g1 => (simp only [List.getElem?_toArray, List.getElem?_cons_zero, List.getElem?_cons_succ]; rfl)
    case a0g1 => kernel_rfl
    case b0g1 => kernel_rfl
    case c0g1 => kernel_rfl
    case q0g1 => exact fun _ _ _ h => h
    case w0g1 => rfl
    case s0g1 => assumption
    case h0g1 => (intro W hSw; obtain ⟨hSa, hSb⟩ := hSw; obtain ⟨a0, a1, a2, a3, a4, a5⟩ := cells6 hSa; obtain ⟨b0, b1, b2, b3, b4, b5⟩ := cells6 hSb; go_simp; try with_reducible rfl)
    try simp only [Act.put, List.setIfInBounds_toArray, List.set_cons_zero, List.set_cons_succ]
    refine wpAnyH_take (i := 1) (oi := ?o1g1) (v := ?v1g1) ?e1g1 ?a1g1 ?b1g1 ?c1g1 ?q1g1 (Or.inl ⟨?w1g1, ?h1g1⟩) ?s1g1 ?r1g1
    case e1g1 => (simp only [List.getElem?_toArray, List.getElem?_cons_zero, List.getElem?_cons_succ]; rfl)
    case a1g1 => kernel_rfl
    case b1g1 => kernel_rfl
    case c1g1 => kernel_rfl
    case q1g1 => exact fun _ _ _ h => h
    case w1g1 => rfl
    case s1g1 => assumption
    case h1g1 => (intro W hSw; obtain ⟨hSa, hSb⟩ := hSw; obtain ⟨a0, a1, a2, a3, a4, a5⟩ := cells6 hSa; obtain ⟨b0, b1, b2, b3, b4, b5⟩ := cells6 hSb; go_simp; try with_reducible rfl)
    try simp only [Act.put, List.setIfInBounds_toArray, List.set_cons_zero, List.set_cons_succ]
    refine wpAnyH_take (i := 2) (oi := ?o2g1) (v := ?v2g1) ?e2g1 ?a2g1 ?b2g1 ?c2g1 ?q2g1 (Or.inl ⟨?w2g1, ?h2g1⟩) ?s2g1 ?r2g1
    case e2g1 => (simp only [List.getElem?_toArray, List.getElem?_cons_zero, List.getElem?_cons_succ]; rfl)
    case a2g1 => kernel_rfl
    case b2g1 => kernel_rfl
    case c2g1 => kernel_rfl
    case q2g1 => exact fun _ _ _ h => h
    case w2g1 => rfl
    case s2g1 => assumption
    case h2g1 => (intro W hSw; obtain ⟨hSa, hSb⟩ := hSw; obtain ⟨a0, a1, a2, a3, a4, a5⟩ := cells6 hSa; obtain ⟨b0, b1, b2, b3, b4, b5⟩ := cells6 hSb; go_simp; try with_reducible rfl)
    try simp only [Act.put, List.setIfInBounds_toArray, List.set_cons_zero, List.set_cons_succ]
    try simp only [beq_self_eq_true]
    refine wpAnyH_take (i := 3) (oi := ?o3g1) (v := ?v3g1) ?e3g1 ?a3g1 ?b3g1 ?c3g1 ?q3g1 (Or.inl ⟨?w3g1, ?h3g1⟩) ?s3g1 ?r3g1
    case e3g1 => (simp only [List.getElem?_toArray, List.getElem?_cons_zero, List.getElem?_cons_succ]; rfl)
    case a3g1 => kernel_rfl
    case b3g1 => kernel_rfl
    case c3g1 => kernel_rfl
    case q3g1 => exact fun _ _ _ h => h
    case w3g1 => rfl
    case s3g1 => assumption
    case h3g1 => (intro W hSw; obtain ⟨hSa, hSb⟩ := hSw; obtain ⟨a0, a1, a2, a3, a4, a5⟩ := cells6 hSa; obtain ⟨b0, b1, b2, b3, b4, b5⟩ := cells6 hSb; go_simp; try with_reducible rfl)
    try simp only [Act.put, List.setIfInBounds_toArray, List.set_cons_zero, List.set_cons_succ]
    refine wpAnyH_take (i := 4) (oi := ?o4g1) (v := ?v4g1) ?e4g1 ?a4g1 ?b4g1 ?c4g1 ?q4g1 (Or.inl ⟨?w4g1, ?h4g1⟩) ?s4g1 ?r4g1
    case e4g1 => (simp only [List.getElem?_toArray, List.getElem?_cons_zero, List.getElem?_cons_succ]; rfl)
    case a4g1 => kernel_rfl
    case b4g1 => kernel_rfl
    case c4g1 => kernel_rfl
    case q4g1 => exact fun _ _ _ h => h
    case w4g1 => rfl
    case s4g1 => assumption
    case h4g1 => (intro W hSw; obtain ⟨hSa, hSb⟩ := hSw; obtain ⟨a0, a1, a2, a3, a4, a5⟩ := cells6 hSa; obtain ⟨b0, b1, b2, b3, b4, b5⟩ := cells6 hSb; go_simp; try with_reducible rfl)
    try simp only [Act.put, List.setIfInBounds_toArray, List.set_cons_zero, List.set_cons_succ]
    refine wpAnyH_take (i := 5) (oi := ?o5g1) (v := ?v5g1) ?e5g1 ?a5g1 ?b5g1 ?c5g1 ?q5g1 (Or.inl ⟨?w5g1, ?h5g1⟩) ?s5g1 ?r5g1
    case e5g1 => (simp only [List.getElem?_toArray, List.getElem?_cons_zero, List.getElem?_cons_succ]; rfl)
    case a5g1 => kernel_rfl
    case b5g1 => kernel_rfl
    case c5g1 => kernel_rfl
    case q5g1 => exact fun _ _ _ h => h
    case w5g1 => rfl
    case s5g1 => assumption
    case h5g1 => (intro W hSw; obtain ⟨hSa, hSb⟩ := hSw; obtain ⟨a0, a1, a2, a3, a4, a5⟩ := cells6 hSa; obtain ⟨b0, b1, b2, b3, b4, b5⟩ := cells6 hSb; go_simp; try with_reducible rfl)
    try simp only [Act.put, List.setIfInBounds_toArray, List.set_cons_zero, List.set_cons_succ]
    refine wpAnyH_take (i := 6) (oi := ?o6g1) (v := ?v6g1) ?e6g1 ?a6g1 ?b6g1 ?c6g1 ?q6g1 (Or.inl ⟨?w6g1, ?h6g1⟩) ?s6g1 ?r6g1
    case e6g1 => (simp only [List.getElem?_toArray, List.getElem?_cons_zero, List.getElem?_cons_succ]; rfl)
    case a6g1 => kernel_rfl
    case b6g1 => kernel_rfl
    case c6g1 => kernel_rfl
    case q6g1 => exact fun _ _ _ h => h
    case w6g1 => rfl
    case s6g1 => assumption
    case h6g1 => (intro W hSw; obtain ⟨hSa, hSb⟩ := hSw; obtain ⟨a0, a1, a2, a3, a4, a5⟩ := cells6 hSa; obtain ⟨b0, b1, b2, b3, b4, b5⟩ := cells6 hSb; go_simp; try with_reducible rfl)
    try simp only [Act.put, List.setIfInBounds_toArray, List.set_cons_zero, List.set_cons_succ]
    try simp only [beq_self_eq_true]
    refine wpAnyH_take (i := 7) (oi := ?o7g1) (v := ?v7g1) ?e7g1 ?a7g1 ?b7g1 ?c7g1 ?q7g1 (Or.inl ⟨?w7g1, ?h7g1⟩) ?s7g1 ?r7g1
    case e7g1 => (simp only [List.getElem?_toArray, List.getElem?_cons_zero, List.getElem?_cons_succ]; rfl)
    case a7g1 => kernel_rfl
    case b7g1 => kernel_rfl
    case c7g1 => kernel_rfl
    case q7g1 => exact fun _ _ _ h => h
    case w7g1 => rfl
    case s7g1 => assumption
    case h7g1 => (intro W hSw; obtain ⟨hSa, hSb⟩ := hSw; obtain ⟨a0, a1, a2, a3, a4, a5⟩ := cells6 hSa; obtain ⟨b0, b1, b2, b3, b4, b5⟩ := cells6 hSb; go_simp; try with_reducible rfl)
    try simp only [Act.put, List.setIfInBounds_toArray, List.set_cons_zero, List.set_cons_succ]
    refine wpAnyH_take (i := 8) (oi := ?o8g1) (v := ?v8g1) ?e8g1 ?a8g1 ?b8g1 ?c8g1 ?q8g1 (Or.inl ⟨?w8g1, ?h8g1⟩) ?s8g1 ?r8g1
    case e8g1 => (simp only [List.getElem?_toArray, List.getElem?_cons_zero, List.getElem?_cons_succ]; rfl)
    case a8g1 => kernel_rfl
    case b8g1 => kernel_rfl
    case c8g1 => kernel_rfl
    case q8g1 => exact fun _ _ _ h => h
    case w8g1 => rfl
    case s8g1 => assumption
    case h8g1 => (intro W hSw; obtain ⟨hSa, hSb⟩ := hSw; obtain ⟨a0, a1, a2, a3, a4, a5⟩ := cells6 hSa; obtain ⟨b0, b1, b2, b3, b4, b5⟩ := cells6 hSb; go_simp; try with_reducible rfl)
    try simp only [Act.put, List.setIfInBounds_toArray, List.set_cons_zero, List.set_cons_succ]
    refine wpAnyH_take (i := 9) (oi := ?o9g1) (v := ?v9g1) ?e9g1 ?a9g1 ?b9g1 ?c9g1 ?q9g1 (Or.inl ⟨?w9g1, ?h9g1⟩) ?s9g1 ?r9g1
    case e9g1 => (simp only [List.getElem?_toArray, List.getElem?_cons_zero, List.getElem?_cons_succ]; rfl)
    case a9g1 => kernel_rfl
    case b9g1 => kernel_rfl
    case c9g1 => kernel_rfl
    case q9g1 => exact fun _ _ _ h => h
    case w9g1 => rfl
    case s9g1 => assumption
    case h9g1 => (intro W hSw; obtain ⟨hSa, hSb⟩ := hSw; obtain ⟨a0, a1, a2, a3, a4, a5⟩ := cells6 hSa; obtain ⟨b0, b1, b2, b3, b4, b5⟩ := cells6 hSb; go_simp; try with_reducible rfl)
    try simp only [Act.put, List.setIfInBounds_toArray, List.set_cons_zero, List.set_cons_succ]
    refine wpAnyH_take (i := 11) (oi := ?o11g1) (v := ?v11g1) ?e11g1 ?a11g1 ?b11g1 ?c11g1 ?q11g1 (Or.inl ⟨?w11g1, ?h11g1⟩) ?s11g1 ?r11g1
    case e11g1 => (simp only [List.getElem?_toArray, List.getElem?_cons_zero, List.getElem?_cons_succ]; rfl)
    case a11g1 => kernel_rfl
    case b11g1 => kernel_rfl
    case c11g1 => kernel_rfl
    case q11g1 => exact fun _ _ _ h => h
    case w11g1 => rfl
    case s11g1 => assumption
    case h11g1 => (intro W hSw; obtain ⟨hSa, hSb⟩ := hSw; obtain ⟨a0, a1, a2, a3, a4, a5⟩ := cells6 hSa; obtain ⟨b0, b1, b2, b3, b4, b5⟩ := cells6 hSb; go_simp; try with_reducible rfl)
    try simp only [Act.put, List.setIfInBounds_toArray, List.set_cons_zero, List.set_cons_succ]
    refine wpAnyH_ready (rs := [10]) (by kernel_rfl) (by simp) (AllReadyH.cons (o := ?o10z10g1) ?e10z10g1 (fun K hK => ?k10z10g1) AllReadyH.nil)
    case e10z10g1 => (simp only [List.getElem?_toArray, List.getElem?_cons_zero, List.getElem?_cons_succ]; rfl)
    go_simp
    (with_reducible refine (Plain_c HX9.out hw1).mono ?_)
    rintro e V1 ⟨ok, ob, on, ot, oo, ol, oq, op, or, os, rfl, hrA, hbA⟩
    have HRA := Lib.hid hrA
    have HB1 := Lib.hid (btr HB9.out hbA)
    have HY1 := Lib.hid (Rep.keep (Kep.of hbA) _ HY9.out)
    have hS1 : (fun V : World => V.heap[w1.heap.size]? = some (obV xk xb xn xt xo xl xq xp xr xs) ∧ V.heap[w2.heap.size]? = some (obR yk yb yn yt yo yl yq yp yr ys)) V1 := bxkeep2 hbA hS9.1 hS9.2
    clear hrA hbA
    go_wp2_with fail
    refine hK.out _ _ hS1 (fun _ => ?_)
    clear hK K
    try simp only [Act.put, List.setIfInBounds_toArray, List.set_cons_zero, List.set_cons_succ]
    refine wpAnyH_ready (rs := [12]) (by kernel_rfl) (by simp) (AllReadyH.cons (o := ?o12z12g1) ?e12z12g1 (fun K hK => ?k12z12g1) AllReadyH.nil)
    case e12z12g1 => (simp only [List.getElem?_toArray, List.getElem?_cons_zero, List.getElem?_cons_succ]; rfl)
    go_simp
    have hcS := RSame_c HRA.out HY1.out hw6 hw6
    rw [smJ_refl] at hcS
    unfold SmQ at hcS
    (with_reducible refine hcS.mono ?_)
    clear hcS
    rintro e V2 ⟨rfl, hbB⟩
    have HB2 := Lib.hid (btr HB1.out hbB)
    have hS2 : (fun V : World => V.heap[w1.heap.size]? = some (obV xk xb xn xt xo xl xq xp xr xs) ∧ V.heap[w2.heap.size]? = some (obR yk yb yn yt yo yl yq yp yr ys)) V2 := bxkeep2 hbB hS1.1 hS1.2
    clear hbB
    go_wp2_with fail
    refine hK.out _ _ hS2 (fun _ => ?_)
    clear hK K
    try simp only [Act.put, List.setIfInBounds_toArray, List.set_cons_zero, List.set_cons_succ]
    refine wpAnyH_take (i := 13) (oi := ?o13g1) (v := ?v13g1) ?e13g1 ?a13g1 ?b13g1 ?c13g1 ?q13g1 (Or.inl ⟨?w13g1, ?h13g1⟩) ?s13g1 ?r13g1
    case e13g1 => (simp only [List.getElem?_toArray, List.getElem?_cons_zero, List.getElem?_cons_succ]; rfl)
    case a13g1 => kernel_rfl
    case b13g1 => kernel_rfl
    case c13g1 => kernel_rfl
    case q13g1 => exact fun _ _ _ h => h
    case w13g1 => rfl
    case s13g1 => assumption
    case h13g1 => (intro W hSw; obtain ⟨hSa, hSb⟩ := hSw; obtain ⟨a0, a1, a2, a3, a4, a5⟩ := cells6 hSa; obtain ⟨b0, b1, b2, b3, b4, b5⟩ := cells6 hSb; go_simp; try with_reducible rfl)
    try simp only [Act.put, List.setIfInBounds_toArray, List.set_cons_zero, List.set_cons_succ]
    refine wpAnyH_take (i := 14) (oi := ?o14g1) (v := ?v14g1) ?e14g1 ?a14g1 ?b14g1 ?c14g1 ?q14g1 (Or.inl ⟨?w14g1, ?h14g1⟩) ?s14g1 ?r14g1
    case e14g1 => (simp only [List.getElem?_toArray, List.getElem?_cons_zero, List.getElem?_cons_succ]; rfl)
    case a14g1 => kernel_rfl
    case b14g1 => kernel_rfl
    case c14g1 => kernel_rfl
    case q14g1 => exact fun _ _ _ h => h
    case w14g1 => rfl
    case s14g1 => assumption
    case h14g1 => (intro W hSw; obtain ⟨hSa, hSb⟩ := hSw; obtain ⟨a0, a1, a2, a3, a4, a5⟩ := cells6 hSa; obtain ⟨b0, b1, b2, b3, b4, b5⟩ := cells6 hSb; go_simp; try with_reducible rfl)
    try simp only [Act.put, List.setIfInBounds_toArray, List.set_cons_zero, List.set_cons_succ]
    refine wpAnyH_ready (rs := [15]) (by kernel_rfl) (by simp) (AllReadyH.cons (o := ?o15z15g1) ?e15z15g1 (fun K hK => ?k15z15g1) AllReadyH.nil)
    case e15z15g1 => (simp only [List.getElem?_toArray, List.getElem?_cons_zero, List.getElem?_cons_succ]; rfl)
    go_simp
    (with_reducible refine (awake_c _ (Env.go HE.out HB2.out)).mono ?_)
    rintro e V3 ⟨rfl, hbC⟩
    have HB3 := Lib.hid (btr HB2.out hbC)
    have hS3 : (fun V : World => V.heap[w1.heap.size]? = some (obV xk xb xn xt xo xl xq xp xr xs) ∧ V.heap[w2.heap.size]? = some (obR yk yb yn yt yo yl yq yp yr ys)) V3 := bxkeep2 hbC hS2.1 hS2.2
    clear hbC
    go_wp2_with fail
    refine hK.out _ _ hS3 (fun _ => ?_)
    clear hK K
    try simp only [Act.put, List.setIfInBounds_toArray, List.set_cons_zero, List.set_cons_succ]
    refine wpAnyH_take (i := 16) (oi := ?o16g1) (v := ?v16g1) ?e16g1 ?a16g1 ?b16g1 ?c16g1 ?q16g1 (Or.inl ⟨?w16g1, ?h16g1⟩) ?s16g1 ?r16g1
    case e16g1 => (simp only [List.getElem?_toArray, List.getElem?_cons_zero, List.getElem?_cons_succ]; rfl)
    case a16g1 => kernel_rfl
    case b16g1 => kernel_rfl
    case c16g1 => kernel_rfl
    case q16g1 => exact fun _ _ _ h => h
    case w16g1 => rfl
    case s16g1 => assumption
    case h16g1 => (intro W hSw; obtain ⟨hSa, hSb⟩ := hSw; obtain ⟨a0, a1, a2, a3, a4, a5⟩ := cells6 hSa; obtain ⟨b0, b1, b2, b3, b4, b5⟩ := cells6 hSb; go_simp; try with_reducible rfl)
    try simp only [Act.put, List.setIfInBounds_toArray, List.set_cons_zero, List.set_cons_succ]
    refine wpAnyH_take (i := 17) (oi := ?o17g1) (v := ?v17g1) ?e17g1 ?a17g1 ?b17g1 ?c17g1 ?q17g1 (Or.inl ⟨?w17g1, ?h17g1⟩) ?s17g1 ?r17g1
    case e17g1 => (simp only [List.getElem?_toArray, List.getElem?_cons_zero, List.getElem?_cons_succ]; rfl)
    case a17g1 => kernel_rfl
    case b17g1 => kernel_rfl
    case c17g1 => kernel_rfl
    case q17g1 => exact fun _ _ _ h => h
    case w17g1 => rfl
    case s17g1 => assumption
    case h17g1 => (intro W hSw; obtain ⟨hSa, hSb⟩ := hSw; obtain ⟨a0, a1, a2, a3, a4, a5⟩ := cells6 hSa; obtain ⟨b0, b1, b2, b3, b4, b5⟩ := cells6 hSb; go_simp; try with_reducible rfl)
    try simp only [Act.put, List.setIfInBounds_toArray, List.set_cons_zero, List.set_cons_succ]
    refine wpAnyH_done (by kernel_rfl) ?_ _
    go_wp2
    go_ret
    exact ⟨rfl, HB3.out⟩
end Go.Proofs.YtpgllcdcpdeicaaGreatDoor.Jv
