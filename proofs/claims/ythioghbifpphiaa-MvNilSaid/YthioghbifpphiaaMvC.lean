/- keysWith, May at one change of the one key; no other condition. -/
import Derived.Test.YthioghbifpphiaaMvB
import Derived.Deep.DeepCutAuto
namespace Go.Proofs.Ythioghbifpphiaa.Mv
open Go.RowKit Go.Lib Go.Maps
open Go.Proofs.Ythioghbifpphiaa.Cn
set_option linter.unusedSimpArgs false
set_option linter.unusedVariables false

set_option maxRecDepth 100000 in
set_option maxHeartbeats 4000000 in
theorem keys_g (c a : Nat) (v : ByteArray) (rev fl ks vs r : Int) (mp : Value) (hb : Bool) (w : World) (h : w.heap[c]? = some (obS rev fl mp ks vs)) (ha : w.heap[a]? = some (obC v)) (hk : 0 ≤ ks ∧ ks ≤ 10) (hr : r = if hb then ks else ks + 1)
    (HH : Hid (∀ V, Below w.heap.size w V → Calls Try.prog 50 #[.pointer (some ⟨c, 0, none⟩), .string kb] V fun e w' => e = .returned (.bool hb) ∧ Below V.heap.size V w')) :
    Calls Try.prog 33 #[.pointer (some ⟨c, 0, none⟩), .slice (some ⟨a, 0, none⟩) 1 1] w fun e w' => e = .returned (.int .i64 r) ∧ Below w.heap.size w w' := by
  obtain ⟨c0, c1, c2, c3, c4, c5, c6, c7⟩ := cells8 h
  have hal : a < w.heap.size := (Array.getElem?_eq_some_iff.1 ha).1
  have HA := Lib.hid ha
  have hq : IntKind.i64.wrap (ks + 1) = ks + 1 := by rw [IntKind.wrap_i64]; omega
  clear h ha
  go_enter Try.func33, Try.ntmps33
  go_wp2
  go_loopw [14, 5] (fun iv nv wr => ∃ j : Nat, j ≤ 1 ∧ iv = .int .i64 (j : Int) ∧ nv = .int .i64 (if j = 0 then ks else r) ∧ Hid (Below w.heap.size w wr)) (fun iv _ _ => 1 - (intOf iv).toNat)
  case atStart => exact ⟨0, by omega, rfl, rfl, Lib.hid (Below.refl _ _)⟩
  case round =>
    obtain ⟨j, hj, rfl, rfl, HB⟩ := hrel
    clear c0 c1 c2 c3 c4 c5 c6 c7
    by_cases hj0 : j = 0
    · subst hj0
      rw [if_pos rfl]
      have HAr := Lib.hid ((HB.out.block a hal).trans HA.out)
      obtain ⟨a0, a1, a2⟩ := Cn.cells3 HAr.out
      obtain ⟨W1, hW1, hk1, hb1⟩ := Cn.new3 wr (.string kb) (.string v) (.bool false) 57
      have HW1 := Lib.hid hW1
      have HB1 := Lib.hid (HB.out.trans (hb1.mono HB.out.size))
      obtain ⟨x0, x1, x2⟩ := Cn.cells3 hk1
      have HHW := Lib.hid (HH.out W1 HB1.out)
      clear hW1 hk1 hb1
      cases hb with
      | true =>
        simp only [if_true] at hr
        subst hr
        go_upto_region 5 with (fail)
        rw [← HW1.out]
        go_wp2_with (go_at_call 50; (with_reducible refine HHW.out.mono ?_); rintro e w2 ⟨rfl, hb2⟩; have HB2 := Lib.hid (HB1.out.trans (hb2.mono HB1.out.size)); clear hb2)
        go_roundw
        case rel => exact ⟨1, by omega, by go_num, by simp, HB2⟩
        case measure => simp [intOf]
      | false =>
        simp only [Bool.false_eq_true, if_false] at hr
        subst hr
        go_upto_region 5 with (fail)
        rw [← HW1.out]
        go_wp2_with (go_at_call 50; (with_reducible refine HHW.out.mono ?_); rintro e w2 ⟨rfl, hb2⟩; have HB2 := Lib.hid (HB1.out.trans (hb2.mono HB1.out.size)); clear hb2)
        go_roundw
        case rel => exact ⟨1, by omega, by go_num, by simp, HB2⟩
        case measure => simp [intOf]
    · obtain rfl : j = 1 := by omega
      rw [if_neg (by decide)]
      go_wp2
      go_ret
      exact ⟨rfl, HB.out⟩
set_option maxRecDepth 100000 in
set_option maxHeartbeats 4000000 in
theorem may_g (c a : Nat) (v : ByteArray) (rev fl ks vs r : Int) (mp : Value) (w : World) (h : w.heap[c]? = some (obS rev fl mp ks vs)) (ha : w.heap[a]? = some (obC v)) (hk : 0 ≤ r ∧ r ≤ 3) (hv : 0 ≤ vs ∧ vs ≤ 8) (hr : 0 ≤ rev ∧ rev ≤ 10)
    (HH : Hid (∀ V, Below w.heap.size w V → Calls Try.prog 33 #[.pointer (some ⟨c, 0, none⟩), .slice (some ⟨a, 0, none⟩) 1 1] V fun e w' => e = .returned (.int .i64 r) ∧ Below V.heap.size V w')) :
    Calls Try.prog 21 #[.pointer (some ⟨c, 0, none⟩), .slice (some ⟨a, 0, none⟩) 1 1] w fun e w' => e = .returned (.int .i64 0) ∧ Below w.heap.size w w' := by
  have HR := Lib.hid (right_1 c a v w ha)
  have hq : IntKind.i64.wrap (vs + 1) = vs + 1 := by rw [IntKind.wrap_i64]; omega
  have d1 : decide (rev ≥ 9007199254740991) = false := decide_eq_false (by omega)
  have d2 : decide (max 3 1 < r) = false := decide_eq_false (by omega)
  have d3 : decide (max 9 1 < vs + 1) = false := decide_eq_false (by omega)
  have HO := Lib.hid h
  have hcl : c < w.heap.size := (Array.getElem?_eq_some_iff.1 h).1
  clear h ha hk hv hr
  go_enter Try.func21, Try.ntmps21
  go_upto_region 5 with (go_at_call 35; (with_reducible refine HR.out.mono ?_); rintro e w1 ⟨rfl, hb1⟩; have HB1 := Lib.hid hb1; clear hb1)
  have hS0 : (fun V : World => V.heap[c]? = some (obS rev fl mp ks vs)) w1.drew := ((btr HB1.out (bdr w1)).block c hcl).trans HO.out
  obtain ⟨V9, hV9⟩ : ∃ V9, V9 = w1.drew := ⟨_, rfl⟩
  have HB9 : Hid (Below w.heap.size w V9) := by rw [hV9]; exact Lib.hid (btr HB1.out (bdr w1))
  have hS9 : (fun V : World => V.heap[c]? = some (obS rev fl mp ks vs)) V9 := by rw [hV9]; exact hS0
  refine wp_region_held_drew (S := (fun V : World => V.heap[c]? = some (obS rev fl mp ks vs))) (by kernel_rfl) hS0 (fun hHeld => ?_)
  rw [← hV9] at hHeld ⊢
  clear hV9 hS0 hHeld
  refine wpAnyH_take (i := 0) (oi := ?o0) (v := ?v0) ?e0 ?a0 ?b0 ?c0 ?q0 (Or.inl ⟨?w0, ?h0⟩) ?s0 ?r0
  case e0 => (simp only [List.getElem?_toArray, List.getElem?_cons_zero, List.getElem?_cons_succ]; rfl)
  case a0 => kernel_rfl
  case b0 => kernel_rfl
  case c0 => kernel_rfl
  case q0 => exact fun _ _ _ h => h
  case w0 => rfl
  case s0 => assumption
  case h0 => (intro W hSw; obtain ⟨a0, a1, a2, a3, a4, a5, a6, a7⟩ := cells8 hSw; go_simp; try with_reducible rfl)
  try simp only [Act.put, List.setIfInBounds_toArray, List.set_cons_zero, List.set_cons_succ]
  refine wpAnyH_take (i := 1) (oi := ?o1) (v := ?v1) ?e1 ?a1 ?b1 ?c1 ?q1 (Or.inl ⟨?w1, ?h1⟩) ?s1 ?r1
  case e1 => (simp only [List.getElem?_toArray, List.getElem?_cons_zero, List.getElem?_cons_succ]; rfl)
  case a1 => kernel_rfl
  case b1 => kernel_rfl
  case c1 => kernel_rfl
  case q1 => exact fun _ _ _ h => h
  case w1 => rfl
  case s1 => assumption
  case h1 => (intro W hSw; obtain ⟨a0, a1, a2, a3, a4, a5, a6, a7⟩ := cells8 hSw; go_simp; try with_reducible rfl)
  try simp only [Act.put, List.setIfInBounds_toArray, List.set_cons_zero, List.set_cons_succ]
  refine wpAnyH_take (i := 2) (oi := ?o2) (v := ?v2) ?e2 ?a2 ?b2 ?c2 ?q2 (Or.inl ⟨?w2, ?h2⟩) ?s2 ?r2
  case e2 => (simp only [List.getElem?_toArray, List.getElem?_cons_zero, List.getElem?_cons_succ]; rfl)
  case a2 => kernel_rfl
  case b2 => kernel_rfl
  case c2 => kernel_rfl
  case q2 => exact fun _ _ _ h => h
  case w2 => rfl
  case s2 => assumption
  case h2 => (intro W hSw; obtain ⟨a0, a1, a2, a3, a4, a5, a6, a7⟩ := cells8 hSw; go_simp; try with_reducible rfl)
  try simp only [Act.put, List.setIfInBounds_toArray, List.set_cons_zero, List.set_cons_succ]
  refine wpAnyH_take (i := 3) (oi := ?o3) (v := ?v3) ?e3 ?a3 ?b3 ?c3 ?q3 (Or.inl ⟨?w3, ?h3⟩) ?s3 ?r3
  case e3 => (simp only [List.getElem?_toArray, List.getElem?_cons_zero, List.getElem?_cons_succ]; rfl)
  case a3 => kernel_rfl
  case b3 => kernel_rfl
  case c3 => kernel_rfl
  case q3 => exact fun _ _ _ h => h
  case w3 => rfl
  case s3 => assumption
  case h3 => (intro W hSw; obtain ⟨a0, a1, a2, a3, a4, a5, a6, a7⟩ := cells8 hSw; go_simp; try with_reducible rfl)
  try simp only [Act.put, List.setIfInBounds_toArray, List.set_cons_zero, List.set_cons_succ]
  refine wpAnyH_take (i := 4) (oi := ?o4) (v := ?v4) ?e4 ?a4 ?b4 ?c4 ?q4 (Or.inl ⟨?w4, ?h4⟩) ?s4 ?r4
  case e4 => (simp only [List.getElem?_toArray, List.getElem?_cons_zero, List.getElem?_cons_succ]; rfl)
  case a4 => kernel_rfl
  case b4 => kernel_rfl
  case c4 => kernel_rfl
  case q4 => exact fun _ _ _ h => h
  case w4 => rfl
  case s4 => assumption
  case h4 => (intro W hSw; obtain ⟨a0, a1, a2, a3, a4, a5, a6, a7⟩ := cells8 hSw; go_simp; try with_reducible rfl)
  try simp only [Act.put, List.setIfInBounds_toArray, List.set_cons_zero, List.set_cons_succ]
  try simp only [d1]
  refine wpAnyH_take (i := 5) (oi := ?o5) (v := ?v5) ?e5 ?a5 ?b5 ?c5 ?q5 (Or.inl ⟨?w5, ?h5⟩) ?s5 ?r5
  case e5 => (simp only [List.getElem?_toArray, List.getElem?_cons_zero, List.getElem?_cons_succ]; rfl)
  case a5 => kernel_rfl
  case b5 => kernel_rfl
  case c5 => kernel_rfl
  case q5 => exact fun _ _ _ h => h
  case w5 => rfl
  case s5 => assumption
  case h5 => (intro W hSw; obtain ⟨a0, a1, a2, a3, a4, a5, a6, a7⟩ := cells8 hSw; go_simp; try with_reducible rfl)
  try simp only [Act.put, List.setIfInBounds_toArray, List.set_cons_zero, List.set_cons_succ]
  refine wpAnyH_take (i := 6) (oi := ?o6) (v := ?v6) ?e6 ?a6 ?b6 ?c6 ?q6 (Or.inl ⟨?w6, ?h6⟩) ?s6 ?r6
  case e6 => (simp only [List.getElem?_toArray, List.getElem?_cons_zero, List.getElem?_cons_succ]; rfl)
  case a6 => kernel_rfl
  case b6 => kernel_rfl
  case c6 => kernel_rfl
  case q6 => exact fun _ _ _ h => h
  case w6 => rfl
  case s6 => assumption
  case h6 => (intro W hSw; obtain ⟨a0, a1, a2, a3, a4, a5, a6, a7⟩ := cells8 hSw; go_simp; try with_reducible rfl)
  try simp only [Act.put, List.setIfInBounds_toArray, List.set_cons_zero, List.set_cons_succ]
  refine wpAnyH_take (i := 7) (oi := ?o7) (v := ?v7) ?e7 ?a7 ?b7 ?c7 ?q7 (Or.inl ⟨?w7, ?h7⟩) ?s7 ?r7
  case e7 => (simp only [List.getElem?_toArray, List.getElem?_cons_zero, List.getElem?_cons_succ]; rfl)
  case a7 => kernel_rfl
  case b7 => kernel_rfl
  case c7 => kernel_rfl
  case q7 => exact fun _ _ _ h => h
  case w7 => rfl
  case s7 => assumption
  case h7 => (intro W hSw; obtain ⟨a0, a1, a2, a3, a4, a5, a6, a7⟩ := cells8 hSw; go_simp; try with_reducible rfl)
  try simp only [Act.put, List.setIfInBounds_toArray, List.set_cons_zero, List.set_cons_succ]
  refine wpAnyH_take (i := 9) (oi := ?o9) (v := ?v9) ?e9 ?a9 ?b9 ?c9 ?q9 (Or.inl ⟨?w9, ?h9⟩) ?s9 ?r9
  case e9 => (simp only [List.getElem?_toArray, List.getElem?_cons_zero, List.getElem?_cons_succ]; rfl)
  case a9 => kernel_rfl
  case b9 => kernel_rfl
  case c9 => kernel_rfl
  case q9 => exact fun _ _ _ h => h
  case w9 => rfl
  case s9 => assumption
  case h9 => (intro W hSw; obtain ⟨a0, a1, a2, a3, a4, a5, a6, a7⟩ := cells8 hSw; go_simp; try with_reducible rfl)
  try simp only [Act.put, List.setIfInBounds_toArray, List.set_cons_zero, List.set_cons_succ]
  refine wpAnyH_take (i := 10) (oi := ?o10) (v := ?v10) ?e10 ?a10 ?b10 ?c10 ?q10 (Or.inl ⟨?w10, ?h10⟩) ?s10 ?r10
  case e10 => (simp only [List.getElem?_toArray, List.getElem?_cons_zero, List.getElem?_cons_succ]; rfl)
  case a10 => kernel_rfl
  case b10 => kernel_rfl
  case c10 => kernel_rfl
  case q10 => exact fun _ _ _ h => h
  case w10 => rfl
  case s10 => assumption
  case h10 => (intro W hSw; obtain ⟨a0, a1, a2, a3, a4, a5, a6, a7⟩ := cells8 hSw; go_simp; try with_reducible rfl)
  try simp only [Act.put, List.setIfInBounds_toArray, List.set_cons_zero, List.set_cons_succ]
  refine wpAnyH_take (i := 11) (oi := ?o11) (v := ?v11) ?e11 ?a11 ?b11 ?c11 ?q11 (Or.inl ⟨?w11, ?h11⟩) ?s11 ?r11
  case e11 => (simp only [List.getElem?_toArray, List.getElem?_cons_zero, List.getElem?_cons_succ]; rfl)
  case a11 => kernel_rfl
  case b11 => kernel_rfl
  case c11 => kernel_rfl
  case q11 => exact fun _ _ _ h => h
  case w11 => rfl
  case s11 => assumption
  case h11 => (intro W hSw; obtain ⟨a0, a1, a2, a3, a4, a5, a6, a7⟩ := cells8 hSw; go_simp; try with_reducible rfl)
  try simp only [Act.put, List.setIfInBounds_toArray, List.set_cons_zero, List.set_cons_succ]
  refine wpAnyH_take (i := 12) (oi := ?o12) (v := ?v12) ?e12 ?a12 ?b12 ?c12 ?q12 (Or.inl ⟨?w12, ?h12⟩) ?s12 ?r12
  case e12 => (simp only [List.getElem?_toArray, List.getElem?_cons_zero, List.getElem?_cons_succ]; rfl)
  case a12 => kernel_rfl
  case b12 => kernel_rfl
  case c12 => kernel_rfl
  case q12 => exact fun _ _ _ h => h
  case w12 => rfl
  case s12 => assumption
  case h12 => (intro W hSw; obtain ⟨a0, a1, a2, a3, a4, a5, a6, a7⟩ := cells8 hSw; go_simp; try with_reducible rfl)
  try simp only [Act.put, List.setIfInBounds_toArray, List.set_cons_zero, List.set_cons_succ]
  refine wpAnyH_take (i := 13) (oi := ?o13) (v := ?v13) ?e13 ?a13 ?b13 ?c13 ?q13 (Or.inl ⟨?w13, ?h13⟩) ?s13 ?r13
  case e13 => (simp only [List.getElem?_toArray, List.getElem?_cons_zero, List.getElem?_cons_succ]; rfl)
  case a13 => kernel_rfl
  case b13 => kernel_rfl
  case c13 => kernel_rfl
  case q13 => exact fun _ _ _ h => h
  case w13 => rfl
  case s13 => assumption
  case h13 => (intro W hSw; obtain ⟨a0, a1, a2, a3, a4, a5, a6, a7⟩ := cells8 hSw; go_simp; try with_reducible rfl)
  try simp only [Act.put, List.setIfInBounds_toArray, List.set_cons_zero, List.set_cons_succ]
  refine wpAnyH_take (i := 14) (oi := ?o14) (v := ?v14) ?e14 ?a14 ?b14 ?c14 ?q14 (Or.inl ⟨?w14, ?h14⟩) ?s14 ?r14
  case e14 => (simp only [List.getElem?_toArray, List.getElem?_cons_zero, List.getElem?_cons_succ]; rfl)
  case a14 => kernel_rfl
  case b14 => kernel_rfl
  case c14 => kernel_rfl
  case q14 => exact fun _ _ _ h => h
  case w14 => rfl
  case s14 => assumption
  case h14 => (intro W hSw; obtain ⟨a0, a1, a2, a3, a4, a5, a6, a7⟩ := cells8 hSw; go_simp; try with_reducible rfl)
  try simp only [Act.put, List.setIfInBounds_toArray, List.set_cons_zero, List.set_cons_succ]
  refine wpAnyH_ready (rs := [8]) (by kernel_rfl) (by simp) (AllReadyH.cons (o := ?o8z8) ?e8z8 (fun K hK => ?k8z8) AllReadyH.nil)
  case e8z8 => (simp only [List.getElem?_toArray, List.getElem?_cons_zero, List.getElem?_cons_succ]; rfl)
  go_simp
  (with_reducible refine (HH.out V9 HB9.out).mono ?_)
  rintro e V1 ⟨rfl, hbA⟩
  have HBV1 := Lib.hid (btr HB9.out hbA)
  have hS1 : (fun V : World => V.heap[c]? = some (obS rev fl mp ks vs)) V1 := (hbA.block c (by have := HB9.out.size; omega)).trans hS9
  clear hbA
  go_wp2_with fail
  refine hK.out _ _ hS1 (fun _ => ?_)
  clear hK K
  try simp only [Act.put, List.setIfInBounds_toArray, List.set_cons_zero, List.set_cons_succ]
  refine wpAnyH_take (i := 15) (oi := ?o15) (v := ?v15) ?e15 ?a15 ?b15 ?c15 ?q15 (Or.inl ⟨?w15, ?h15⟩) ?s15 ?r15
  case e15 => (simp only [List.getElem?_toArray, List.getElem?_cons_zero, List.getElem?_cons_succ]; rfl)
  case a15 => kernel_rfl
  case b15 => kernel_rfl
  case c15 => kernel_rfl
  case q15 => exact fun _ _ _ h => h
  case w15 => rfl
  case s15 => assumption
  case h15 => (intro W hSw; obtain ⟨a0, a1, a2, a3, a4, a5, a6, a7⟩ := cells8 hSw; go_simp; try with_reducible rfl)
  try simp only [Act.put, List.setIfInBounds_toArray, List.set_cons_zero, List.set_cons_succ]
  try simp only [d2]
  refine wpAnyH_take (i := 16) (oi := ?o16) (v := ?v16) ?e16 ?a16 ?b16 ?c16 ?q16 (Or.inl ⟨?w16, ?h16⟩) ?s16 ?r16
  case e16 => (simp only [List.getElem?_toArray, List.getElem?_cons_zero, List.getElem?_cons_succ]; rfl)
  case a16 => kernel_rfl
  case b16 => kernel_rfl
  case c16 => kernel_rfl
  case q16 => exact fun _ _ _ h => h
  case w16 => rfl
  case s16 => assumption
  case h16 => (intro W hSw; obtain ⟨a0, a1, a2, a3, a4, a5, a6, a7⟩ := cells8 hSw; go_simp; try with_reducible rfl)
  try simp only [Act.put, List.setIfInBounds_toArray, List.set_cons_zero, List.set_cons_succ]
  refine wpAnyH_take (i := 17) (oi := ?o17) (v := ?v17) ?e17 ?a17 ?b17 ?c17 ?q17 (Or.inl ⟨?w17, ?h17⟩) ?s17 ?r17
  case e17 => (simp only [List.getElem?_toArray, List.getElem?_cons_zero, List.getElem?_cons_succ]; rfl)
  case a17 => kernel_rfl
  case b17 => kernel_rfl
  case c17 => kernel_rfl
  case q17 => exact fun _ _ _ h => h
  case w17 => rfl
  case s17 => assumption
  case h17 => (intro W hSw; obtain ⟨a0, a1, a2, a3, a4, a5, a6, a7⟩ := cells8 hSw; go_simp; try with_reducible rfl)
  try simp only [Act.put, List.setIfInBounds_toArray, List.set_cons_zero, List.set_cons_succ]
  refine wpAnyH_take (i := 18) (oi := ?o18) (v := ?v18) ?e18 ?a18 ?b18 ?c18 ?q18 (Or.inl ⟨?w18, ?h18⟩) ?s18 ?r18
  case e18 => (simp only [List.getElem?_toArray, List.getElem?_cons_zero, List.getElem?_cons_succ]; rfl)
  case a18 => kernel_rfl
  case b18 => kernel_rfl
  case c18 => kernel_rfl
  case q18 => exact fun _ _ _ h => h
  case w18 => rfl
  case s18 => assumption
  case h18 => (intro W hSw; obtain ⟨a0, a1, a2, a3, a4, a5, a6, a7⟩ := cells8 hSw; go_simp; try with_reducible rfl)
  try simp only [Act.put, List.setIfInBounds_toArray, List.set_cons_zero, List.set_cons_succ]
  refine wpAnyH_take (i := 19) (oi := ?o19) (v := ?v19) ?e19 ?a19 ?b19 ?c19 ?q19 (Or.inl ⟨?w19, ?h19⟩) ?s19 ?r19
  case e19 => (simp only [List.getElem?_toArray, List.getElem?_cons_zero, List.getElem?_cons_succ]; rfl)
  case a19 => kernel_rfl
  case b19 => kernel_rfl
  case c19 => kernel_rfl
  case q19 => exact fun _ _ _ h => h
  case w19 => rfl
  case s19 => assumption
  case h19 => (intro W hSw; obtain ⟨a0, a1, a2, a3, a4, a5, a6, a7⟩ := cells8 hSw; go_simp; try with_reducible rfl)
  try simp only [Act.put, List.setIfInBounds_toArray, List.set_cons_zero, List.set_cons_succ]
  refine wpAnyH_take (i := 20) (oi := ?o20) (v := ?v20) ?e20 ?a20 ?b20 ?c20 ?q20 (Or.inl ⟨?w20, ?h20⟩) ?s20 ?r20
  case e20 => (simp only [List.getElem?_toArray, List.getElem?_cons_zero, List.getElem?_cons_succ]; rfl)
  case a20 => kernel_rfl
  case b20 => kernel_rfl
  case c20 => kernel_rfl
  case q20 => exact fun _ _ _ h => h
  case w20 => rfl
  case s20 => assumption
  case h20 => (intro W hSw; obtain ⟨a0, a1, a2, a3, a4, a5, a6, a7⟩ := cells8 hSw; go_simp; try with_reducible rfl)
  try simp only [Act.put, List.setIfInBounds_toArray, List.set_cons_zero, List.set_cons_succ]
  refine wpAnyH_take (i := 21) (oi := ?o21) (v := ?v21) ?e21 ?a21 ?b21 ?c21 ?q21 (Or.inl ⟨?w21, ?h21⟩) ?s21 ?r21
  case e21 => (simp only [List.getElem?_toArray, List.getElem?_cons_zero, List.getElem?_cons_succ]; rfl)
  case a21 => kernel_rfl
  case b21 => kernel_rfl
  case c21 => kernel_rfl
  case q21 => exact fun _ _ _ h => h
  case w21 => rfl
  case s21 => assumption
  case h21 => (intro W hSw; obtain ⟨a0, a1, a2, a3, a4, a5, a6, a7⟩ := cells8 hSw; go_simp; try with_reducible rfl)
  try simp only [Act.put, List.setIfInBounds_toArray, List.set_cons_zero, List.set_cons_succ]
  refine wpAnyH_take (i := 22) (oi := ?o22) (v := ?v22) ?e22 ?a22 ?b22 ?c22 ?q22 (Or.inl ⟨?w22, ?h22⟩) ?s22 ?r22
  case e22 => (simp only [List.getElem?_toArray, List.getElem?_cons_zero, List.getElem?_cons_succ]; rfl)
  case a22 => kernel_rfl
  case b22 => kernel_rfl
  case c22 => kernel_rfl
  case q22 => exact fun _ _ _ h => h
  case w22 => rfl
  case s22 => assumption
  case h22 => (intro W hSw; obtain ⟨a0, a1, a2, a3, a4, a5, a6, a7⟩ := cells8 hSw; go_simp; try with_reducible rfl)
  try simp only [Act.put, List.setIfInBounds_toArray, List.set_cons_zero, List.set_cons_succ]
  refine wpAnyH_take (i := 23) (oi := ?o23) (v := ?v23) ?e23 ?a23 ?b23 ?c23 ?q23 (Or.inl ⟨?w23, ?h23⟩) ?s23 ?r23
  case e23 => (simp only [List.getElem?_toArray, List.getElem?_cons_zero, List.getElem?_cons_succ]; rfl)
  case a23 => kernel_rfl
  case b23 => kernel_rfl
  case c23 => kernel_rfl
  case q23 => exact fun _ _ _ h => h
  case w23 => rfl
  case s23 => assumption
  case h23 => (intro W hSw; obtain ⟨a0, a1, a2, a3, a4, a5, a6, a7⟩ := cells8 hSw; go_simp; try with_reducible rfl)
  try simp only [Act.put, List.setIfInBounds_toArray, List.set_cons_zero, List.set_cons_succ]
  refine wpAnyH_take (i := 24) (oi := ?o24) (v := ?v24) ?e24 ?a24 ?b24 ?c24 ?q24 (Or.inl ⟨?w24, ?h24⟩) ?s24 ?r24
  case e24 => (simp only [List.getElem?_toArray, List.getElem?_cons_zero, List.getElem?_cons_succ]; rfl)
  case a24 => kernel_rfl
  case b24 => kernel_rfl
  case c24 => kernel_rfl
  case q24 => exact fun _ _ _ h => h
  case w24 => rfl
  case s24 => assumption
  case h24 => (intro W hSw; obtain ⟨a0, a1, a2, a3, a4, a5, a6, a7⟩ := cells8 hSw; go_simp; try with_reducible rfl)
  try simp only [Act.put, List.setIfInBounds_toArray, List.set_cons_zero, List.set_cons_succ]
  refine wpAnyH_take (i := 25) (oi := ?o25) (v := ?v25) ?e25 ?a25 ?b25 ?c25 ?q25 (Or.inl ⟨?w25, ?h25⟩) ?s25 ?r25
  case e25 => (simp only [List.getElem?_toArray, List.getElem?_cons_zero, List.getElem?_cons_succ]; rfl)
  case a25 => kernel_rfl
  case b25 => kernel_rfl
  case c25 => kernel_rfl
  case q25 => exact fun _ _ _ h => h
  case w25 => rfl
  case s25 => assumption
  case h25 => (intro W hSw; obtain ⟨a0, a1, a2, a3, a4, a5, a6, a7⟩ := cells8 hSw; go_simp; try with_reducible rfl)
  try simp only [Act.put, List.setIfInBounds_toArray, List.set_cons_zero, List.set_cons_succ]
  refine wpAnyH_take (i := 26) (oi := ?o26) (v := ?v26) ?e26 ?a26 ?b26 ?c26 ?q26 (Or.inl ⟨?w26, ?h26⟩) ?s26 ?r26
  case e26 => (simp only [List.getElem?_toArray, List.getElem?_cons_zero, List.getElem?_cons_succ]; rfl)
  case a26 => kernel_rfl
  case b26 => kernel_rfl
  case c26 => kernel_rfl
  case q26 => exact fun _ _ _ h => h
  case w26 => rfl
  case s26 => assumption
  case h26 => (intro W hSw; obtain ⟨a0, a1, a2, a3, a4, a5, a6, a7⟩ := cells8 hSw; go_simp; try with_reducible rfl)
  try simp only [Act.put, List.setIfInBounds_toArray, List.set_cons_zero, List.set_cons_succ]
  refine wpAnyH_take (i := 27) (oi := ?o27) (v := ?v27) ?e27 ?a27 ?b27 ?c27 ?q27 (Or.inl ⟨?w27, ?h27⟩) ?s27 ?r27
  case e27 => (simp only [List.getElem?_toArray, List.getElem?_cons_zero, List.getElem?_cons_succ]; rfl)
  case a27 => kernel_rfl
  case b27 => kernel_rfl
  case c27 => kernel_rfl
  case q27 => exact fun _ _ _ h => h
  case w27 => rfl
  case s27 => assumption
  case h27 => (intro W hSw; obtain ⟨a0, a1, a2, a3, a4, a5, a6, a7⟩ := cells8 hSw; go_simp; try with_reducible rfl)
  try simp only [Act.put, List.setIfInBounds_toArray, List.set_cons_zero, List.set_cons_succ]
  refine wpAnyH_take (i := 28) (oi := ?o28) (v := ?v28) ?e28 ?a28 ?b28 ?c28 ?q28 (Or.inl ⟨?w28, ?h28⟩) ?s28 ?r28
  case e28 => (simp only [List.getElem?_toArray, List.getElem?_cons_zero, List.getElem?_cons_succ]; rfl)
  case a28 => kernel_rfl
  case b28 => kernel_rfl
  case c28 => kernel_rfl
  case q28 => exact fun _ _ _ h => h
  case w28 => rfl
  case s28 => assumption
  case h28 => (intro W hSw; obtain ⟨a0, a1, a2, a3, a4, a5, a6, a7⟩ := cells8 hSw; go_simp; try with_reducible rfl)
  try simp only [Act.put, List.setIfInBounds_toArray, List.set_cons_zero, List.set_cons_succ]
  refine wpAnyH_take (i := 29) (oi := ?o29) (v := ?v29) ?e29 ?a29 ?b29 ?c29 ?q29 (Or.inl ⟨?w29, ?h29⟩) ?s29 ?r29
  case e29 => (simp only [List.getElem?_toArray, List.getElem?_cons_zero, List.getElem?_cons_succ]; rfl)
  case a29 => kernel_rfl
  case b29 => kernel_rfl
  case c29 => kernel_rfl
  case q29 => exact fun _ _ _ h => h
  case w29 => rfl
  case s29 => assumption
  case h29 => (intro W hSw; obtain ⟨a0, a1, a2, a3, a4, a5, a6, a7⟩ := cells8 hSw; go_simp; try with_reducible rfl)
  try simp only [Act.put, List.setIfInBounds_toArray, List.set_cons_zero, List.set_cons_succ]
  refine wpAnyH_take (i := 30) (oi := ?o30) (v := ?v30) ?e30 ?a30 ?b30 ?c30 ?q30 (Or.inl ⟨?w30, ?h30⟩) ?s30 ?r30
  case e30 => (simp only [List.getElem?_toArray, List.getElem?_cons_zero, List.getElem?_cons_succ]; rfl)
  case a30 => kernel_rfl
  case b30 => kernel_rfl
  case c30 => kernel_rfl
  case q30 => exact fun _ _ _ h => h
  case w30 => rfl
  case s30 => assumption
  case h30 => (intro W hSw; obtain ⟨a0, a1, a2, a3, a4, a5, a6, a7⟩ := cells8 hSw; go_simp; try with_reducible rfl)
  try simp only [Act.put, List.setIfInBounds_toArray, List.set_cons_zero, List.set_cons_succ]
  refine wpAnyH_take (i := 31) (oi := ?o31) (v := ?v31) ?e31 ?a31 ?b31 ?c31 ?q31 (Or.inl ⟨?w31, ?h31⟩) ?s31 ?r31
  case e31 => (simp only [List.getElem?_toArray, List.getElem?_cons_zero, List.getElem?_cons_succ]; rfl)
  case a31 => kernel_rfl
  case b31 => kernel_rfl
  case c31 => kernel_rfl
  case q31 => exact fun _ _ _ h => h
  case w31 => rfl
  case s31 => assumption
  case h31 => (intro W hSw; obtain ⟨a0, a1, a2, a3, a4, a5, a6, a7⟩ := cells8 hSw; go_simp; try with_reducible rfl)
  try simp only [Act.put, List.setIfInBounds_toArray, List.set_cons_zero, List.set_cons_succ]
  try simp only [d3]
  refine wpAnyH_take (i := 32) (oi := ?o32) (v := ?v32) ?e32 ?a32 ?b32 ?c32 ?q32 (Or.inl ⟨?w32, ?h32⟩) ?s32 ?r32
  case e32 => (simp only [List.getElem?_toArray, List.getElem?_cons_zero, List.getElem?_cons_succ]; rfl)
  case a32 => kernel_rfl
  case b32 => kernel_rfl
  case c32 => kernel_rfl
  case q32 => exact fun _ _ _ h => h
  case w32 => rfl
  case s32 => assumption
  case h32 => (intro W hSw; obtain ⟨a0, a1, a2, a3, a4, a5, a6, a7⟩ := cells8 hSw; go_simp; try with_reducible rfl)
  try simp only [Act.put, List.setIfInBounds_toArray, List.set_cons_zero, List.set_cons_succ]
  refine wpAnyH_done (by kernel_rfl) ?_ _
  go_wp2
  go_ret
  exact ⟨rfl, HBV1.out⟩
end Go.Proofs.Ythioghbifpphiaa.Mv
