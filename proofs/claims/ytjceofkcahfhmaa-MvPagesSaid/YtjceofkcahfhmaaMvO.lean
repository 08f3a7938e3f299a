/- A store of many versions with any keys: May; no other condition. -/
import Derived.Test.YtjceofkcahfhmaaMvN
import Derived.Deep.DeepCutAuto
namespace Go.Proofs.Ytjceofkcahfhmaa.Mv
open Go.RowKit Go.Lib Go.Maps
open Go.Proofs.Ytjceofkcahfhmaa.Cn
set_option linter.unusedSimpArgs false
set_option linter.unusedVariables false

/-- what May answers -/
def mayE (f : Key → Option Chn) (l0 l9 rev ks vs : Int) (l : List ChT) : Int := if rightB f rev l = false then 1 else if max l0 1 < kwL f rev ks l ∨ max l9 1 < vs + l.length then 7 else 0
set_option maxRecDepth 100000 in
set_option maxHeartbeats 4000000 in
theorem May_c {B c N : Nat} {mb : Option Nat} {f : Key → Option Chn} {l0 l9 rev fl ks vs : Int} {od : Value} {w : World} (h : IsMv B c N mb f l0 l9 rev fl ks vs od w) (hN : N ≤ 1000000) (ao : Option Addr) (cap : Nat) (l : List ChT) (hl : RdC (.slice ao l.length cap) l w) (hm : l.length ≤ 1000) (hkk : ∀ x ∈ l, x.1.size ≤ maxLen) (hks : -1000000 ≤ ks ∧ ks ≤ 1000000) (hvs : -1000000 ≤ vs ∧ vs ≤ 1000000) (hrev : rev ≤ 1000000) :
    Calls Try.prog 20 #[.pointer (some ⟨c, 0, none⟩), .slice ao l.length cap] w fun e w' => e = .returned (.int .i64 (mayE f l0 l9 rev ks vs l)) ∧ Below w.heap.size w w' := by
  have HR := Lib.hid (right_c h hN ao cap l hl hm hkk)
  have HK : Hid (∀ V, Below w.heap.size w V → Calls Try.prog 35 #[.pointer (some ⟨c, 0, none⟩), .slice ao l.length cap] V fun e w' => e = .returned (.int .i64 (kwL f rev ks l)) ∧ Below V.heap.size V w') := fun V hV => keysWith_c (h.go hV) hN ao cap l (hl.go hV) hm hks hkk
  have hq : IntKind.i64.wrap (vs + (l.length : Nat)) = vs + (l.length : Nat) := by rw [IntKind.wrap_i64]; omega
  have d1 : decide (rev ≥ 9007199254740991) = false := decide_eq_false (by omega)
  have H := Lib.hid h
  unfold mayE
  generalize kwL f rev ks l = r at *
  obtain ⟨n, hn⟩ : ∃ n, n = l.length := ⟨_, rfl⟩
  rw [← hn] at HR HK hq ⊢
  clear h hl hkk hks hvs hrev hm hn
  cases hb : rightB f rev l with
  | false =>
    rw [hb] at HR
    rw [if_pos rfl]
    clear hb
    go_enter Try.func20, Try.ntmps20
    go_wp2_with (go_at_call 34; (with_reducible refine HR.out.mono ?_); rintro e w1 ⟨rfl, hb1⟩; have HB1 := Lib.hid hb1; clear hb1)
    go_ret
    exact ⟨rfl, HB1.out⟩
  | true =>
    rw [hb] at HR
    rw [if_neg (by decide)]
    clear hb
    by_cases h2 : max l0 1 < r
    · have d2 : decide (max l0 1 < r) = true := decide_eq_true h2
      rw [if_pos (.inl h2)]
      clear h2
      go_enter Try.func20, Try.ntmps20
      go_upto_region 5 with (go_at_call 34; (with_reducible refine HR.out.mono ?_); rintro e w1 ⟨rfl, hb1⟩; have HB1 := Lib.hid hb1; clear hb1)
      have hS0 : (fun V : World => V.heap[c]? = some (obN l0 l9 rev fl (.map mb) ks vs od)) w1.drew := (H.out.go (btr HB1.out (bdr w1))).hs
      obtain ⟨V9, hV9⟩ : ∃ V9, V9 = w1.drew := ⟨_, rfl⟩
      have HB9 : Hid (Below w.heap.size w V9) := by rw [hV9]; exact Lib.hid (btr HB1.out (bdr w1))
      have hS9 : (fun V : World => V.heap[c]? = some (obN l0 l9 rev fl (.map mb) ks vs od)) V9 := by rw [hV9]; exact hS0
      refine wp_region_held_drew (S := (fun V : World => V.heap[c]? = some (obN l0 l9 rev fl (.map mb) ks vs od))) (by kernel_rfl) hS0 (fun hHeld => ?_)
      rw [← hV9] at hHeld ⊢
      clear hV9 hS0 hHeld
      refine wpAnyH_take (i := 0) (oi := ?o0g1) (v := ?v0g1) ?e0g1 ?a0g1 ?b0g1 ?c0g1 ?q0g1 (Or.inl ⟨?w0g1, ?h0g1⟩) ?s0g1 ?r0g1
      case e0g1 => (simp only [List.getElem?_toArray, List.getElem?_cons_zero, List.getElem?_cons_succ]; rfl)
      case a0g1 => kernel_rfl
      case b0g1 => kernel_rfl
      case c0g1 => kernel_rfl
      case q0g1 => exact fun _ _ _ h => h
      case w0g1 => rfl
      case s0g1 => assumption
      case h0g1 => (intro W hSw; obtain ⟨a0, a1, a2, a3, a4, a5, a6, a7⟩ := cells8 hSw; go_simp; try with_reducible rfl)
      try simp only [Act.put, List.setIfInBounds_toArray, List.set_cons_zero, List.set_cons_succ]
      refine wpAnyH_take (i := 1) (oi := ?o1g1) (v := ?v1g1) ?e1g1 ?a1g1 ?b1g1 ?c1g1 ?q1g1 (Or.inl ⟨?w1g1, ?h1g1⟩) ?s1g1 ?r1g1
      case e1g1 => (simp only [List.getElem?_toArray, List.getElem?_cons_zero, List.getElem?_cons_succ]; rfl)
      case a1g1 => kernel_rfl
      case b1g1 => kernel_rfl
      case c1g1 => kernel_rfl
      case q1g1 => exact fun _ _ _ h => h
      case w1g1 => rfl
      case s1g1 => assumption
      case h1g1 => (intro W hSw; obtain ⟨a0, a1, a2, a3, a4, a5, a6, a7⟩ := cells8 hSw; go_simp; try with_reducible rfl)
      try simp only [Act.put, List.setIfInBounds_toArray, List.set_cons_zero, List.set_cons_succ]
      refine wpAnyH_take (i := 2) (oi := ?o2g1) (v := ?v2g1) ?e2g1 ?a2g1 ?b2g1 ?c2g1 ?q2g1 (Or.inl ⟨?w2g1, ?h2g1⟩) ?s2g1 ?r2g1
      case e2g1 => (simp only [List.getElem?_toArray, List.getElem?_cons_zero, List.getElem?_cons_succ]; rfl)
      case a2g1 => kernel_rfl
      case b2g1 => kernel_rfl
      case c2g1 => kernel_rfl
      case q2g1 => exact fun _ _ _ h => h
      case w2g1 => rfl
      case s2g1 => assumption
      case h2g1 => (intro W hSw; obtain ⟨a0, a1, a2, a3, a4, a5, a6, a7⟩ := cells8 hSw; go_simp; try with_reducible rfl)
      try simp only [Act.put, List.setIfInBounds_toArray, List.set_cons_zero, List.set_cons_succ]
      refine wpAnyH_take (i := 3) (oi := ?o3g1) (v := ?v3g1) ?e3g1 ?a3g1 ?b3g1 ?c3g1 ?q3g1 (Or.inl ⟨?w3g1, ?h3g1⟩) ?s3g1 ?r3g1
      case e3g1 => (simp only [List.getElem?_toArray, List.getElem?_cons_zero, List.getElem?_cons_succ]; rfl)
      case a3g1 => kernel_rfl
      case b3g1 => kernel_rfl
      case c3g1 => kernel_rfl
      case q3g1 => exact fun _ _ _ h => h
      case w3g1 => rfl
      case s3g1 => assumption
      case h3g1 => (intro W hSw; obtain ⟨a0, a1, a2, a3, a4, a5, a6, a7⟩ := cells8 hSw; go_simp; try with_reducible rfl)
      try simp only [Act.put, List.setIfInBounds_toArray, List.set_cons_zero, List.set_cons_succ]
      refine wpAnyH_take (i := 4) (oi := ?o4g1) (v := ?v4g1) ?e4g1 ?a4g1 ?b4g1 ?c4g1 ?q4g1 (Or.inl ⟨?w4g1, ?h4g1⟩) ?s4g1 ?r4g1
      case e4g1 => (simp only [List.getElem?_toArray, List.getElem?_cons_zero, List.getElem?_cons_succ]; rfl)
      case a4g1 => kernel_rfl
      case b4g1 => kernel_rfl
      case c4g1 => kernel_rfl
      case q4g1 => exact fun _ _ _ h => h
      case w4g1 => rfl
      case s4g1 => assumption
      case h4g1 => (intro W hSw; obtain ⟨a0, a1, a2, a3, a4, a5, a6, a7⟩ := cells8 hSw; go_simp; try with_reducible rfl)
      try simp only [Act.put, List.setIfInBounds_toArray, List.set_cons_zero, List.set_cons_succ]
      try simp only [d1]
      refine wpAnyH_take (i := 5) (oi := ?o5g1) (v := ?v5g1) ?e5g1 ?a5g1 ?b5g1 ?c5g1 ?q5g1 (Or.inl ⟨?w5g1, ?h5g1⟩) ?s5g1 ?r5g1
      case e5g1 => (simp only [List.getElem?_toArray, List.getElem?_cons_zero, List.getElem?_cons_succ]; rfl)
      case a5g1 => kernel_rfl
      case b5g1 => kernel_rfl
      case c5g1 => kernel_rfl
      case q5g1 => exact fun _ _ _ h => h
      case w5g1 => rfl
      case s5g1 => assumption
      case h5g1 => (intro W hSw; obtain ⟨a0, a1, a2, a3, a4, a5, a6, a7⟩ := cells8 hSw; go_simp; try with_reducible rfl)
      try simp only [Act.put, List.setIfInBounds_toArray, List.set_cons_zero, List.set_cons_succ]
      refine wpAnyH_take (i := 6) (oi := ?o6g1) (v := ?v6g1) ?e6g1 ?a6g1 ?b6g1 ?c6g1 ?q6g1 (Or.inl ⟨?w6g1, ?h6g1⟩) ?s6g1 ?r6g1
      case e6g1 => (simp only [List.getElem?_toArray, List.getElem?_cons_zero, List.getElem?_cons_succ]; rfl)
      case a6g1 => kernel_rfl
      case b6g1 => kernel_rfl
      case c6g1 => kernel_rfl
      case q6g1 => exact fun _ _ _ h => h
      case w6g1 => rfl
      case s6g1 => assumption
      case h6g1 => (intro W hSw; obtain ⟨a0, a1, a2, a3, a4, a5, a6, a7⟩ := cells8 hSw; go_simp; try with_reducible rfl)
      try simp only [Act.put, List.setIfInBounds_toArray, List.set_cons_zero, List.set_cons_succ]
      refine wpAnyH_take (i := 7) (oi := ?o7g1) (v := ?v7g1) ?e7g1 ?a7g1 ?b7g1 ?c7g1 ?q7g1 (Or.inl ⟨?w7g1, ?h7g1⟩) ?s7g1 ?r7g1
      case e7g1 => (simp only [List.getElem?_toArray, List.getElem?_cons_zero, List.getElem?_cons_succ]; rfl)
      case a7g1 => kernel_rfl
      case b7g1 => kernel_rfl
      case c7g1 => kernel_rfl
      case q7g1 => exact fun _ _ _ h => h
      case w7g1 => rfl
      case s7g1 => assumption
      case h7g1 => (intro W hSw; obtain ⟨a0, a1, a2, a3, a4, a5, a6, a7⟩ := cells8 hSw; go_simp; try with_reducible rfl)
      try simp only [Act.put, List.setIfInBounds_toArray, List.set_cons_zero, List.set_cons_succ]
      refine wpAnyH_take (i := 9) (oi := ?o9g1) (v := ?v9g1) ?e9g1 ?a9g1 ?b9g1 ?c9g1 ?q9g1 (Or.inl ⟨?w9g1, ?h9g1⟩) ?s9g1 ?r9g1
      case e9g1 => (simp only [List.getElem?_toArray, List.getElem?_cons_zero, List.getElem?_cons_succ]; rfl)
      case a9g1 => kernel_rfl
      case b9g1 => kernel_rfl
      case c9g1 => kernel_rfl
      case q9g1 => exact fun _ _ _ h => h
      case w9g1 => rfl
      case s9g1 => assumption
      case h9g1 => (intro W hSw; obtain ⟨a0, a1, a2, a3, a4, a5, a6, a7⟩ := cells8 hSw; go_simp; try with_reducible rfl)
      try simp only [Act.put, List.setIfInBounds_toArray, List.set_cons_zero, List.set_cons_succ]
      refine wpAnyH_take (i := 10) (oi := ?o10g1) (v := ?v10g1) ?e10g1 ?a10g1 ?b10g1 ?c10g1 ?q10g1 (Or.inl ⟨?w10g1, ?h10g1⟩) ?s10g1 ?r10g1
      case e10g1 => (simp only [List.getElem?_toArray, List.getElem?_cons_zero, List.getElem?_cons_succ]; rfl)
      case a10g1 => kernel_rfl
      case b10g1 => kernel_rfl
      case c10g1 => kernel_rfl
      case q10g1 => exact fun _ _ _ h => h
      case w10g1 => rfl
      case s10g1 => assumption
      case h10g1 => (intro W hSw; obtain ⟨a0, a1, a2, a3, a4, a5, a6, a7⟩ := cells8 hSw; go_simp; try with_reducible rfl)
      try simp only [Act.put, List.setIfInBounds_toArray, List.set_cons_zero, List.set_cons_succ]
      refine wpAnyH_take (i := 11) (oi := ?o11g1) (v := ?v11g1) ?e11g1 ?a11g1 ?b11g1 ?c11g1 ?q11g1 (Or.inl ⟨?w11g1, ?h11g1⟩) ?s11g1 ?r11g1
      case e11g1 => (simp only [List.getElem?_toArray, List.getElem?_cons_zero, List.getElem?_cons_succ]; rfl)
      case a11g1 => kernel_rfl
      case b11g1 => kernel_rfl
      case c11g1 => kernel_rfl
      case q11g1 => exact fun _ _ _ h => h
      case w11g1 => rfl
      case s11g1 => assumption
      case h11g1 => (intro W hSw; obtain ⟨a0, a1, a2, a3, a4, a5, a6, a7⟩ := cells8 hSw; go_simp; try with_reducible rfl)
      try simp only [Act.put, List.setIfInBounds_toArray, List.set_cons_zero, List.set_cons_succ]
      refine wpAnyH_take (i := 12) (oi := ?o12g1) (v := ?v12g1) ?e12g1 ?a12g1 ?b12g1 ?c12g1 ?q12g1 (Or.inl ⟨?w12g1, ?h12g1⟩) ?s12g1 ?r12g1
      case e12g1 => (simp only [List.getElem?_toArray, List.getElem?_cons_zero, List.getElem?_cons_succ]; rfl)
      case a12g1 => kernel_rfl
      case b12g1 => kernel_rfl
      case c12g1 => kernel_rfl
      case q12g1 => exact fun _ _ _ h => h
      case w12g1 => rfl
      case s12g1 => assumption
      case h12g1 => (intro W hSw; obtain ⟨a0, a1, a2, a3, a4, a5, a6, a7⟩ := cells8 hSw; go_simp; try with_reducible rfl)
      try simp only [Act.put, List.setIfInBounds_toArray, List.set_cons_zero, List.set_cons_succ]
      refine wpAnyH_take (i := 13) (oi := ?o13g1) (v := ?v13g1) ?e13g1 ?a13g1 ?b13g1 ?c13g1 ?q13g1 (Or.inl ⟨?w13g1, ?h13g1⟩) ?s13g1 ?r13g1
      case e13g1 => (simp only [List.getElem?_toArray, List.getElem?_cons_zero, List.getElem?_cons_succ]; rfl)
      case a13g1 => kernel_rfl
      case b13g1 => kernel_rfl
      case c13g1 => kernel_rfl
      case q13g1 => exact fun _ _ _ h => h
      case w13g1 => rfl
      case s13g1 => assumption
      case h13g1 => (intro W hSw; obtain ⟨a0, a1, a2, a3, a4, a5, a6, a7⟩ := cells8 hSw; go_simp; try with_reducible rfl)
      try simp only [Act.put, List.setIfInBounds_toArray, List.set_cons_zero, List.set_cons_succ]
      refine wpAnyH_take (i := 14) (oi := ?o14g1) (v := ?v14g1) ?e14g1 ?a14g1 ?b14g1 ?c14g1 ?q14g1 (Or.inl ⟨?w14g1, ?h14g1⟩) ?s14g1 ?r14g1
      case e14g1 => (simp only [List.getElem?_toArray, List.getElem?_cons_zero, List.getElem?_cons_succ]; rfl)
      case a14g1 => kernel_rfl
      case b14g1 => kernel_rfl
      case c14g1 => kernel_rfl
      case q14g1 => exact fun _ _ _ h => h
      case w14g1 => rfl
      case s14g1 => assumption
      case h14g1 => (intro W hSw; obtain ⟨a0, a1, a2, a3, a4, a5, a6, a7⟩ := cells8 hSw; go_simp; try with_reducible rfl)
      try simp only [Act.put, List.setIfInBounds_toArray, List.set_cons_zero, List.set_cons_succ]
      refine wpAnyH_ready (rs := [8]) (by kernel_rfl) (by simp) (AllReadyH.cons (o := ?o8z8g1) ?e8z8g1 (fun K hK => ?k8z8g1) AllReadyH.nil)
      case e8z8g1 => (simp only [List.getElem?_toArray, List.getElem?_cons_zero, List.getElem?_cons_succ]; rfl)
      go_simp
      (with_reducible refine (HK.out V9 HB9.out).mono ?_)
      rintro e V1 ⟨rfl, hbA⟩
      have HBV1 := Lib.hid (btr HB9.out hbA)
      have hS1 : (fun V : World => V.heap[c]? = some (obN l0 l9 rev fl (.map mb) ks vs od)) V1 := (H.out.go HBV1.out).hs
      clear hbA
      go_wp2_with fail
      refine hK.out _ _ hS1 (fun _ => ?_)
      clear hK K
      try simp only [Act.put, List.setIfInBounds_toArray, List.set_cons_zero, List.set_cons_succ]
      refine wpAnyH_take (i := 15) (oi := ?o15g1) (v := ?v15g1) ?e15g1 ?a15g1 ?b15g1 ?c15g1 ?q15g1 (Or.inl ⟨?w15g1, ?h15g1⟩) ?s15g1 ?r15g1
      case e15g1 => (simp only [List.getElem?_toArray, List.getElem?_cons_zero, List.getElem?_cons_succ]; rfl)
      case a15g1 => kernel_rfl
      case b15g1 => kernel_rfl
      case c15g1 => kernel_rfl
      case q15g1 => exact fun _ _ _ h => h
      case w15g1 => rfl
      case s15g1 => assumption
      case h15g1 => (intro W hSw; obtain ⟨a0, a1, a2, a3, a4, a5, a6, a7⟩ := cells8 hSw; go_simp; try with_reducible rfl)
      try simp only [Act.put, List.setIfInBounds_toArray, List.set_cons_zero, List.set_cons_succ]
      try simp only [d2]
      refine wpAnyH_take (i := 16) (oi := ?o16g1) (v := ?v16g1) ?e16g1 ?a16g1 ?b16g1 ?c16g1 ?q16g1 (Or.inl ⟨?w16g1, ?h16g1⟩) ?s16g1 ?r16g1
      case e16g1 => (simp only [List.getElem?_toArray, List.getElem?_cons_zero, List.getElem?_cons_succ]; rfl)
      case a16g1 => kernel_rfl
      case b16g1 => kernel_rfl
      case c16g1 => kernel_rfl
      case q16g1 => exact fun _ _ _ h => h
      case w16g1 => rfl
      case s16g1 => assumption
      case h16g1 => (intro W hSw; obtain ⟨a0, a1, a2, a3, a4, a5, a6, a7⟩ := cells8 hSw; go_simp; try with_reducible rfl)
      try simp only [Act.put, List.setIfInBounds_toArray, List.set_cons_zero, List.set_cons_succ]
      refine wpAnyH_take (i := 17) (oi := ?o17g1) (v := ?v17g1) ?e17g1 ?a17g1 ?b17g1 ?c17g1 ?q17g1 (Or.inl ⟨?w17g1, ?h17g1⟩) ?s17g1 ?r17g1
      case e17g1 => (simp only [List.getElem?_toArray, List.getElem?_cons_zero, List.getElem?_cons_succ]; rfl)
      case a17g1 => kernel_rfl
      case b17g1 => kernel_rfl
      case c17g1 => kernel_rfl
      case q17g1 => exact fun _ _ _ h => h
      case w17g1 => rfl
      case s17g1 => assumption
      case h17g1 => (intro W hSw; obtain ⟨a0, a1, a2, a3, a4, a5, a6, a7⟩ := cells8 hSw; go_simp; try with_reducible rfl)
      try simp only [Act.put, List.setIfInBounds_toArray, List.set_cons_zero, List.set_cons_succ]
      refine wpAnyH_take (i := 18) (oi := ?o18g1) (v := undef) ?e18g1 ?a18g1 ?b18g1 ?c18g1 ?q18g1 (Or.inr ⟨?w18g1, ?h18g1⟩) ?s18g1 ?r18g1
      case e18g1 => (simp only [List.getElem?_toArray, List.getElem?_cons_zero, List.getElem?_cons_succ]; rfl)
      case a18g1 => kernel_rfl
      case b18g1 => kernel_rfl
      case c18g1 => kernel_rfl
      case q18g1 => exact fun _ _ _ h => h
      case w18g1 => rfl
      case s18g1 => assumption
      case h18g1 => rfl
      try simp only [Act.put, List.setIfInBounds_toArray, List.set_cons_zero, List.set_cons_succ]
      refine wpAnyH_take (i := 19) (oi := ?o19g1) (v := undef) ?e19g1 ?a19g1 ?b19g1 ?c19g1 ?q19g1 (Or.inr ⟨?w19g1, ?h19g1⟩) ?s19g1 ?r19g1
      case e19g1 => (simp only [List.getElem?_toArray, List.getElem?_cons_zero, List.getElem?_cons_succ]; rfl)
      case a19g1 => kernel_rfl
      case b19g1 => kernel_rfl
      case c19g1 => kernel_rfl
      case q19g1 => exact fun _ _ _ h => h
      case w19g1 => rfl
      case s19g1 => assumption
      case h19g1 => rfl
      try simp only [Act.put, List.setIfInBounds_toArray, List.set_cons_zero, List.set_cons_succ]
      refine wpAnyH_take (i := 20) (oi := ?o20g1) (v := undef) ?e20g1 ?a20g1 ?b20g1 ?c20g1 ?q20g1 (Or.inr ⟨?w20g1, ?h20g1⟩) ?s20g1 ?r20g1
      case e20g1 => (simp only [List.getElem?_toArray, List.getElem?_cons_zero, List.getElem?_cons_succ]; rfl)
      case a20g1 => kernel_rfl
      case b20g1 => kernel_rfl
      case c20g1 => kernel_rfl
      case q20g1 => exact fun _ _ _ h => h
      case w20g1 => rfl
      case s20g1 => assumption
      case h20g1 => rfl
      try simp only [Act.put, List.setIfInBounds_toArray, List.set_cons_zero, List.set_cons_succ]
      refine wpAnyH_take (i := 21) (oi := ?o21g1) (v := undef) ?e21g1 ?a21g1 ?b21g1 ?c21g1 ?q21g1 (Or.inr ⟨?w21g1, ?h21g1⟩) ?s21g1 ?r21g1
      case e21g1 => (simp only [List.getElem?_toArray, List.getElem?_cons_zero, List.getElem?_cons_succ]; rfl)
      case a21g1 => kernel_rfl
      case b21g1 => kernel_rfl
      case c21g1 => kernel_rfl
      case q21g1 => exact fun _ _ _ h => h
      case w21g1 => rfl
      case s21g1 => assumption
      case h21g1 => rfl
      try simp only [Act.put, List.setIfInBounds_toArray, List.set_cons_zero, List.set_cons_succ]
      refine wpAnyH_take (i := 22) (oi := ?o22g1) (v := undef) ?e22g1 ?a22g1 ?b22g1 ?c22g1 ?q22g1 (Or.inr ⟨?w22g1, ?h22g1⟩) ?s22g1 ?r22g1
      case e22g1 => (simp only [List.getElem?_toArray, List.getElem?_cons_zero, List.getElem?_cons_succ]; rfl)
      case a22g1 => kernel_rfl
      case b22g1 => kernel_rfl
      case c22g1 => kernel_rfl
      case q22g1 => exact fun _ _ _ h => h
      case w22g1 => rfl
      case s22g1 => assumption
      case h22g1 => rfl
      try simp only [Act.put, List.setIfInBounds_toArray, List.set_cons_zero, List.set_cons_succ]
      refine wpAnyH_take (i := 23) (oi := ?o23g1) (v := undef) ?e23g1 ?a23g1 ?b23g1 ?c23g1 ?q23g1 (Or.inr ⟨?w23g1, ?h23g1⟩) ?s23g1 ?r23g1
      case e23g1 => (simp only [List.getElem?_toArray, List.getElem?_cons_zero, List.getElem?_cons_succ]; rfl)
      case a23g1 => kernel_rfl
      case b23g1 => kernel_rfl
      case c23g1 => kernel_rfl
      case q23g1 => exact fun _ _ _ h => h
      case w23g1 => rfl
      case s23g1 => assumption
      case h23g1 => rfl
      try simp only [Act.put, List.setIfInBounds_toArray, List.set_cons_zero, List.set_cons_succ]
      refine wpAnyH_take (i := 24) (oi := ?o24g1) (v := undef) ?e24g1 ?a24g1 ?b24g1 ?c24g1 ?q24g1 (Or.inr ⟨?w24g1, ?h24g1⟩) ?s24g1 ?r24g1
      case e24g1 => (simp only [List.getElem?_toArray, List.getElem?_cons_zero, List.getElem?_cons_succ]; rfl)
      case a24g1 => kernel_rfl
      case b24g1 => kernel_rfl
      case c24g1 => kernel_rfl
      case q24g1 => exact fun _ _ _ h => h
      case w24g1 => rfl
      case s24g1 => assumption
      case h24g1 => rfl
      try simp only [Act.put, List.setIfInBounds_toArray, List.set_cons_zero, List.set_cons_succ]
      refine wpAnyH_take (i := 25) (oi := ?o25g1) (v := undef) ?e25g1 ?a25g1 ?b25g1 ?c25g1 ?q25g1 (Or.inr ⟨?w25g1, ?h25g1⟩) ?s25g1 ?r25g1
      case e25g1 => (simp only [List.getElem?_toArray, List.getElem?_cons_zero, List.getElem?_cons_succ]; rfl)
      case a25g1 => kernel_rfl
      case b25g1 => kernel_rfl
      case c25g1 => kernel_rfl
      case q25g1 => exact fun _ _ _ h => h
      case w25g1 => rfl
      case s25g1 => assumption
      case h25g1 => rfl
      try simp only [Act.put, List.setIfInBounds_toArray, List.set_cons_zero, List.set_cons_succ]
      refine wpAnyH_take (i := 26) (oi := ?o26g1) (v := undef) ?e26g1 ?a26g1 ?b26g1 ?c26g1 ?q26g1 (Or.inr ⟨?w26g1, ?h26g1⟩) ?s26g1 ?r26g1
      case e26g1 => (simp only [List.getElem?_toArray, List.getElem?_cons_zero, List.getElem?_cons_succ]; rfl)
      case a26g1 => kernel_rfl
      case b26g1 => kernel_rfl
      case c26g1 => kernel_rfl
      case q26g1 => exact fun _ _ _ h => h
      case w26g1 => rfl
      case s26g1 => assumption
      case h26g1 => rfl
      try simp only [Act.put, List.setIfInBounds_toArray, List.set_cons_zero, List.set_cons_succ]
      refine wpAnyH_take (i := 27) (oi := ?o27g1) (v := undef) ?e27g1 ?a27g1 ?b27g1 ?c27g1 ?q27g1 (Or.inr ⟨?w27g1, ?h27g1⟩) ?s27g1 ?r27g1
      case e27g1 => (simp only [List.getElem?_toArray, List.getElem?_cons_zero, List.getElem?_cons_succ]; rfl)
      case a27g1 => kernel_rfl
      case b27g1 => kernel_rfl
      case c27g1 => kernel_rfl
      case q27g1 => exact fun _ _ _ h => h
      case w27g1 => rfl
      case s27g1 => assumption
      case h27g1 => rfl
      try simp only [Act.put, List.setIfInBounds_toArray, List.set_cons_zero, List.set_cons_succ]
      refine wpAnyH_take (i := 28) (oi := ?o28g1) (v := undef) ?e28g1 ?a28g1 ?b28g1 ?c28g1 ?q28g1 (Or.inr ⟨?w28g1, ?h28g1⟩) ?s28g1 ?r28g1
      case e28g1 => (simp only [List.getElem?_toArray, List.getElem?_cons_zero, List.getElem?_cons_succ]; rfl)
      case a28g1 => kernel_rfl
      case b28g1 => kernel_rfl
      case c28g1 => kernel_rfl
      case q28g1 => exact fun _ _ _ h => h
      case w28g1 => rfl
      case s28g1 => assumption
      case h28g1 => rfl
      try simp only [Act.put, List.setIfInBounds_toArray, List.set_cons_zero, List.set_cons_succ]
      refine wpAnyH_take (i := 29) (oi := ?o29g1) (v := undef) ?e29g1 ?a29g1 ?b29g1 ?c29g1 ?q29g1 (Or.inr ⟨?w29g1, ?h29g1⟩) ?s29g1 ?r29g1
      case e29g1 => (simp only [List.getElem?_toArray, List.getElem?_cons_zero, List.getElem?_cons_succ]; rfl)
      case a29g1 => kernel_rfl
      case b29g1 => kernel_rfl
      case c29g1 => kernel_rfl
      case q29g1 => exact fun _ _ _ h => h
      case w29g1 => rfl
      case s29g1 => assumption
      case h29g1 => rfl
      try simp only [Act.put, List.setIfInBounds_toArray, List.set_cons_zero, List.set_cons_succ]
      refine wpAnyH_take (i := 30) (oi := ?o30g1) (v := undef) ?e30g1 ?a30g1 ?b30g1 ?c30g1 ?q30g1 (Or.inr ⟨?w30g1, ?h30g1⟩) ?s30g1 ?r30g1
      case e30g1 => (simp only [List.getElem?_toArray, List.getElem?_cons_zero, List.getElem?_cons_succ]; rfl)
      case a30g1 => kernel_rfl
      case b30g1 => kernel_rfl
      case c30g1 => kernel_rfl
      case q30g1 => exact fun _ _ _ h => h
      case w30g1 => rfl
      case s30g1 => assumption
      case h30g1 => rfl
      try simp only [Act.put, List.setIfInBounds_toArray, List.set_cons_zero, List.set_cons_succ]
      refine wpAnyH_take (i := 31) (oi := ?o31g1) (v := undef) ?e31g1 ?a31g1 ?b31g1 ?c31g1 ?q31g1 (Or.inr ⟨?w31g1, ?h31g1⟩) ?s31g1 ?r31g1
      case e31g1 => (simp only [List.getElem?_toArray, List.getElem?_cons_zero, List.getElem?_cons_succ]; rfl)
      case a31g1 => kernel_rfl
      case b31g1 => kernel_rfl
      case c31g1 => kernel_rfl
      case q31g1 => exact fun _ _ _ h => h
      case w31g1 => rfl
      case s31g1 => assumption
      case h31g1 => rfl
      try simp only [Act.put, List.setIfInBounds_toArray, List.set_cons_zero, List.set_cons_succ]
      refine wpAnyH_take (i := 32) (oi := ?o32g1) (v := ?v32g1) ?e32g1 ?a32g1 ?b32g1 ?c32g1 ?q32g1 (Or.inl ⟨?w32g1, ?h32g1⟩) ?s32g1 ?r32g1
      case e32g1 => (simp only [List.getElem?_toArray, List.getElem?_cons_zero, List.getElem?_cons_succ]; rfl)
      case a32g1 => kernel_rfl
      case b32g1 => kernel_rfl
      case c32g1 => kernel_rfl
      case q32g1 => exact fun _ _ _ h => h
      case w32g1 => rfl
      case s32g1 => assumption
      case h32g1 => (intro W hSw; obtain ⟨a0, a1, a2, a3, a4, a5, a6, a7⟩ := cells8 hSw; go_simp; try with_reducible rfl)
      try simp only [Act.put, List.setIfInBounds_toArray, List.set_cons_zero, List.set_cons_succ]
      refine wpAnyH_done (by kernel_rfl) ?_ _
      go_wp2
      go_ret
      exact ⟨rfl, HBV1.out⟩
    · have d2 : decide (max l0 1 < r) = false := decide_eq_false h2
      by_cases h3 : max l9 1 < vs + (n : Nat)
      · have d3 : decide (max l9 1 < vs + (n : Nat)) = true := decide_eq_true h3
        rw [if_pos (.inr h3)]
        clear h2 h3
        go_enter Try.func20, Try.ntmps20
        go_upto_region 5 with (go_at_call 34; (with_reducible refine HR.out.mono ?_); rintro e w1 ⟨rfl, hb1⟩; have HB1 := Lib.hid hb1; clear hb1)
        have hS0 : (fun V : World => V.heap[c]? = some (obN l0 l9 rev fl (.map mb) ks vs od)) w1.drew := (H.out.go (btr HB1.out (bdr w1))).hs
        obtain ⟨V9, hV9⟩ : ∃ V9, V9 = w1.drew := ⟨_, rfl⟩
        have HB9 : Hid (Below w.heap.size w V9) := by rw [hV9]; exact Lib.hid (btr HB1.out (bdr w1))
        have hS9 : (fun V : World => V.heap[c]? = some (obN l0 l9 rev fl (.map mb) ks vs od)) V9 := by rw [hV9]; exact hS0
        refine wp_region_held_drew (S := (fun V : World => V.heap[c]? = some (obN l0 l9 rev fl (.map mb) ks vs od))) (by kernel_rfl) hS0 (fun hHeld => ?_)
        rw [← hV9] at hHeld ⊢
        clear hV9 hS0 hHeld
        refine wpAnyH_take (i := 0) (oi := ?o0g2) (v := ?v0g2) ?e0g2 ?a0g2 ?b0g2 ?c0g2 ?q0g2 (Or.inl ⟨?w0g2, ?h0g2⟩) ?s0g2 ?r0g2
        case e0g2 => (simp only [List.getElem?_toArray, List.getElem?_cons_zero, List.getElem?_cons_succ]; rfl)
        case a0g2 => kernel_rfl
        case b0g2 => kernel_rfl
        case c0g2 => kernel_rfl
        case q0g2 => exact fun _ _ _ h => h
        case w0g2 => rfl
        case s0g2 => assumption
        case h0g2 => (intro W hSw; obtain ⟨a0, a1, a2, a3, a4, a5, a6, a7⟩ := cells8 hSw; go_simp; try with_reducible rfl)
        try simp only [Act.put, List.setIfInBounds_toArray, List.set_cons_zero, List.set_cons_succ]
        refine wpAnyH_take (i := 1) (oi := ?o1g2) (v := ?v1g2) ?e1g2 ?a1g2 ?b1g2 ?c1g2 ?q1g2 (Or.inl ⟨?w1g2, ?h1g2⟩) ?s1g2 ?r1g2
        case e1g2 => (simp only [List.getElem?_toArray, List.getElem?_cons_zero, List.getElem?_cons_succ]; rfl)
        case a1g2 => kernel_rfl
        case b1g2 => kernel_rfl
        case c1g2 => kernel_rfl
        case q1g2 => exact fun _ _ _ h => h
        case w1g2 => rfl
        case s1g2 => assumption
        case h1g2 => (intro W hSw; obtain ⟨a0, a1, a2, a3, a4, a5, a6, a7⟩ := cells8 hSw; go_simp; try with_reducible rfl)
        try simp only [Act.put, List.setIfInBounds_toArray, List.set_cons_zero, List.set_cons_succ]
        refine wpAnyH_take (i := 2) (oi := ?o2g2) (v := ?v2g2) ?e2g2 ?a2g2 ?b2g2 ?c2g2 ?q2g2 (Or.inl ⟨?w2g2, ?h2g2⟩) ?s2g2 ?r2g2
        case e2g2 => (simp only [List.getElem?_toArray, List.getElem?_cons_zero, List.getElem?_cons_succ]; rfl)
        case a2g2 => kernel_rfl
        case b2g2 => kernel_rfl
        case c2g2 => kernel_rfl
        case q2g2 => exact fun _ _ _ h => h
        case w2g2 => rfl
        case s2g2 => assumption
        case h2g2 => (intro W hSw; obtain ⟨a0, a1, a2, a3, a4, a5, a6, a7⟩ := cells8 hSw; go_simp; try with_reducible rfl)
        try simp only [Act.put, List.setIfInBounds_toArray, List.set_cons_zero, List.set_cons_succ]
        refine wpAnyH_take (i := 3) (oi := ?o3g2) (v := ?v3g2) ?e3g2 ?a3g2 ?b3g2 ?c3g2 ?q3g2 (Or.inl ⟨?w3g2, ?h3g2⟩) ?s3g2 ?r3g2
        case e3g2 => (simp only [List.getElem?_toArray, List.getElem?_cons_zero, List.getElem?_cons_succ]; rfl)
        case a3g2 => kernel_rfl
        case b3g2 => kernel_rfl
        case c3g2 => kernel_rfl
        case q3g2 => exact fun _ _ _ h => h
        case w3g2 => rfl
        case s3g2 => assumption
        case h3g2 => (intro W hSw; obtain ⟨a0, a1, a2, a3, a4, a5, a6, a7⟩ := cells8 hSw; go_simp; try with_reducible rfl)
        try simp only [Act.put, List.setIfInBounds_toArray, List.set_cons_zero, List.set_cons_succ]
        refine wpAnyH_take (i := 4) (oi := ?o4g2) (v := ?v4g2) ?e4g2 ?a4g2 ?b4g2 ?c4g2 ?q4g2 (Or.inl ⟨?w4g2, ?h4g2⟩) ?s4g2 ?r4g2
        case e4g2 => (simp only [List.getElem?_toArray, List.getElem?_cons_zero, List.getElem?_cons_succ]; rfl)
        case a4g2 => kernel_rfl
        case b4g2 => kernel_rfl
        case c4g2 => kernel_rfl
        case q4g2 => exact fun _ _ _ h => h
        case w4g2 => rfl
        case s4g2 => assumption
        case h4g2 => (intro W hSw; obtain ⟨a0, a1, a2, a3, a4, a5, a6, a7⟩ := cells8 hSw; go_simp; try with_reducible rfl)
        try simp only [Act.put, List.setIfInBounds_toArray, List.set_cons_zero, List.set_cons_succ]
        try simp only [d1]
        refine wpAnyH_take (i := 5) (oi := ?o5g2) (v := ?v5g2) ?e5g2 ?a5g2 ?b5g2 ?c5g2 ?q5g2 (Or.inl ⟨?w5g2, ?h5g2⟩) ?s5g2 ?r5g2
        case e5g2 => (simp only [List.getElem?_toArray, List.getElem?_cons_zero, List.getElem?_cons_succ]; rfl)
        case a5g2 => kernel_rfl
        case b5g2 => kernel_rfl
        case c5g2 => kernel_rfl
        case q5g2 => exact fun _ _ _ h => h
        case w5g2 => rfl
        case s5g2 => assumption
        case h5g2 => (intro W hSw; obtain ⟨a0, a1, a2, a3, a4, a5, a6, a7⟩ := cells8 hSw; go_simp; try with_reducible rfl)
        try simp only [Act.put, List.setIfInBounds_toArray, List.set_cons_zero, List.set_cons_succ]
        refine wpAnyH_take (i := 6) (oi := ?o6g2) (v := ?v6g2) ?e6g2 ?a6g2 ?b6g2 ?c6g2 ?q6g2 (Or.inl ⟨?w6g2, ?h6g2⟩) ?s6g2 ?r6g2
        case e6g2 => (simp only [List.getElem?_toArray, List.getElem?_cons_zero, List.getElem?_cons_succ]; rfl)
        case a6g2 => kernel_rfl
        case b6g2 => kernel_rfl
        case c6g2 => kernel_rfl
        case q6g2 => exact fun _ _ _ h => h
        case w6g2 => rfl
        case s6g2 => assumption
        case h6g2 => (intro W hSw; obtain ⟨a0, a1, a2, a3, a4, a5, a6, a7⟩ := cells8 hSw; go_simp; try with_reducible rfl)
        try simp only [Act.put, List.setIfInBounds_toArray, List.set_cons_zero, List.set_cons_succ]
        refine wpAnyH_take (i := 7) (oi := ?o7g2) (v := ?v7g2) ?e7g2 ?a7g2 ?b7g2 ?c7g2 ?q7g2 (Or.inl ⟨?w7g2, ?h7g2⟩) ?s7g2 ?r7g2
        case e7g2 => (simp only [List.getElem?_toArray, List.getElem?_cons_zero, List.getElem?_cons_succ]; rfl)
        case a7g2 => kernel_rfl
        case b7g2 => kernel_rfl
        case c7g2 => kernel_rfl
        case q7g2 => exact fun _ _ _ h => h
        case w7g2 => rfl
        case s7g2 => assumption
        case h7g2 => (intro W hSw; obtain ⟨a0, a1, a2, a3, a4, a5, a6, a7⟩ := cells8 hSw; go_simp; try with_reducible rfl)
        try simp only [Act.put, List.setIfInBounds_toArray, List.set_cons_zero, List.set_cons_succ]
        refine wpAnyH_take (i := 9) (oi := ?o9g2) (v := ?v9g2) ?e9g2 ?a9g2 ?b9g2 ?c9g2 ?q9g2 (Or.inl ⟨?w9g2, ?h9g2⟩) ?s9g2 ?r9g2
        case e9g2 => (simp only [List.getElem?_toArray, List.getElem?_cons_zero, List.getElem?_cons_succ]; rfl)
        case a9g2 => kernel_rfl
        case b9g2 => kernel_rfl
        case c9g2 => kernel_rfl
        case q9g2 => exact fun _ _ _ h => h
        case w9g2 => rfl
        case s9g2 => assumption
        case h9g2 => (intro W hSw; obtain ⟨a0, a1, a2, a3, a4, a5, a6, a7⟩ := cells8 hSw; go_simp; try with_reducible rfl)
        try simp only [Act.put, List.setIfInBounds_toArray, List.set_cons_zero, List.set_cons_succ]
        refine wpAnyH_take (i := 10) (oi := ?o10g2) (v := ?v10g2) ?e10g2 ?a10g2 ?b10g2 ?c10g2 ?q10g2 (Or.inl ⟨?w10g2, ?h10g2⟩) ?s10g2 ?r10g2
        case e10g2 => (simp only [List.getElem?_toArray, List.getElem?_cons_zero, List.getElem?_cons_succ]; rfl)
        case a10g2 => kernel_rfl
        case b10g2 => kernel_rfl
        case c10g2 => kernel_rfl
        case q10g2 => exact fun _ _ _ h => h
        case w10g2 => rfl
        case s10g2 => assumption
        case h10g2 => (intro W hSw; obtain ⟨a0, a1, a2, a3, a4, a5, a6, a7⟩ := cells8 hSw; go_simp; try with_reducible rfl)
        try simp only [Act.put, List.setIfInBounds_toArray, List.set_cons_zero, List.set_cons_succ]
        refine wpAnyH_take (i := 11) (oi := ?o11g2) (v := ?v11g2) ?e11g2 ?a11g2 ?b11g2 ?c11g2 ?q11g2 (Or.inl ⟨?w11g2, ?h11g2⟩) ?s11g2 ?r11g2
        case e11g2 => (simp only [List.getElem?_toArray, List.getElem?_cons_zero, List.getElem?_cons_succ]; rfl)
        case a11g2 => kernel_rfl
        case b11g2 => kernel_rfl
        case c11g2 => kernel_rfl
        case q11g2 => exact fun _ _ _ h => h
        case w11g2 => rfl
        case s11g2 => assumption
        case h11g2 => (intro W hSw; obtain ⟨a0, a1, a2, a3, a4, a5, a6, a7⟩ := cells8 hSw; go_simp; try with_reducible rfl)
        try simp only [Act.put, List.setIfInBounds_toArray, List.set_cons_zero, List.set_cons_succ]
        refine wpAnyH_take (i := 12) (oi := ?o12g2) (v := ?v12g2) ?e12g2 ?a12g2 ?b12g2 ?c12g2 ?q12g2 (Or.inl ⟨?w12g2, ?h12g2⟩) ?s12g2 ?r12g2
        case e12g2 => (simp only [List.getElem?_toArray, List.getElem?_cons_zero, List.getElem?_cons_succ]; rfl)
        case a12g2 => kernel_rfl
        case b12g2 => kernel_rfl
        case c12g2 => kernel_rfl
        case q12g2 => exact fun _ _ _ h => h
        case w12g2 => rfl
        case s12g2 => assumption
        case h12g2 => (intro W hSw; obtain ⟨a0, a1, a2, a3, a4, a5, a6, a7⟩ := cells8 hSw; go_simp; try with_reducible rfl)
        try simp only [Act.put, List.setIfInBounds_toArray, List.set_cons_zero, List.set_cons_succ]
        refine wpAnyH_take (i := 13) (oi := ?o13g2) (v := ?v13g2) ?e13g2 ?a13g2 ?b13g2 ?c13g2 ?q13g2 (Or.inl ⟨?w13g2, ?h13g2⟩) ?s13g2 ?r13g2
        case e13g2 => (simp only [List.getElem?_toArray, List.getElem?_cons_zero, List.getElem?_cons_succ]; rfl)
        case a13g2 => kernel_rfl
        case b13g2 => kernel_rfl
        case c13g2 => kernel_rfl
        case q13g2 => exact fun _ _ _ h => h
        case w13g2 => rfl
        case s13g2 => assumption
        case h13g2 => (intro W hSw; obtain ⟨a0, a1, a2, a3, a4, a5, a6, a7⟩ := cells8 hSw; go_simp; try with_reducible rfl)
        try simp only [Act.put, List.setIfInBounds_toArray, List.set_cons_zero, List.set_cons_succ]
        refine wpAnyH_take (i := 14) (oi := ?o14g2) (v := ?v14g2) ?e14g2 ?a14g2 ?b14g2 ?c14g2 ?q14g2 (Or.inl ⟨?w14g2, ?h14g2⟩) ?s14g2 ?r14g2
        case e14g2 => (simp only [List.getElem?_toArray, List.getElem?_cons_zero, List.getElem?_cons_succ]; rfl)
        case a14g2 => kernel_rfl
        case b14g2 => kernel_rfl
        case c14g2 => kernel_rfl
        case q14g2 => exact fun _ _ _ h => h
        case w14g2 => rfl
        case s14g2 => assumption
        case h14g2 => (intro W hSw; obtain ⟨a0, a1, a2, a3, a4, a5, a6, a7⟩ := cells8 hSw; go_simp; try with_reducible rfl)
        try simp only [Act.put, List.setIfInBounds_toArray, List.set_cons_zero, List.set_cons_succ]
        refine wpAnyH_ready (rs := [8]) (by kernel_rfl) (by simp) (AllReadyH.cons (o := ?o8z8g2) ?e8z8g2 (fun K hK => ?k8z8g2) AllReadyH.nil)
        case e8z8g2 => (simp only [List.getElem?_toArray, List.getElem?_cons_zero, List.getElem?_cons_succ]; rfl)
        go_simp
        (with_reducible refine (HK.out V9 HB9.out).mono ?_)
        rintro e V1 ⟨rfl, hbA⟩
        have HBV1 := Lib.hid (btr HB9.out hbA)
        have hS1 : (fun V : World => V.heap[c]? = some (obN l0 l9 rev fl (.map mb) ks vs od)) V1 := (H.out.go HBV1.out).hs
        clear hbA
        go_wp2_with fail
        refine hK.out _ _ hS1 (fun _ => ?_)
        clear hK K
        try simp only [Act.put, List.setIfInBounds_toArray, List.set_cons_zero, List.set_cons_succ]
        refine wpAnyH_take (i := 15) (oi := ?o15g2) (v := ?v15g2) ?e15g2 ?a15g2 ?b15g2 ?c15g2 ?q15g2 (Or.inl ⟨?w15g2, ?h15g2⟩) ?s15g2 ?r15g2
        case e15g2 => (simp only [List.getElem?_toArray, List.getElem?_cons_zero, List.getElem?_cons_succ]; rfl)
        case a15g2 => kernel_rfl
        case b15g2 => kernel_rfl
        case c15g2 => kernel_rfl
        case q15g2 => exact fun _ _ _ h => h
        case w15g2 => rfl
        case s15g2 => assumption
        case h15g2 => (intro W hSw; obtain ⟨a0, a1, a2, a3, a4, a5, a6, a7⟩ := cells8 hSw; go_simp; try with_reducible rfl)
        try simp only [Act.put, List.setIfInBounds_toArray, List.set_cons_zero, List.set_cons_succ]
        try simp only [d2]
        refine wpAnyH_take (i := 16) (oi := ?o16g2) (v := ?v16g2) ?e16g2 ?a16g2 ?b16g2 ?c16g2 ?q16g2 (Or.inl ⟨?w16g2, ?h16g2⟩) ?s16g2 ?r16g2
        case e16g2 => (simp only [List.getElem?_toArray, List.getElem?_cons_zero, List.getElem?_cons_succ]; rfl)
        case a16g2 => kernel_rfl
        case b16g2 => kernel_rfl
        case c16g2 => kernel_rfl
        case q16g2 => exact fun _ _ _ h => h
        case w16g2 => rfl
        case s16g2 => assumption
        case h16g2 => (intro W hSw; obtain ⟨a0, a1, a2, a3, a4, a5, a6, a7⟩ := cells8 hSw; go_simp; try with_reducible rfl)
        try simp only [Act.put, List.setIfInBounds_toArray, List.set_cons_zero, List.set_cons_succ]
        refine wpAnyH_take (i := 17) (oi := ?o17g2) (v := ?v17g2) ?e17g2 ?a17g2 ?b17g2 ?c17g2 ?q17g2 (Or.inl ⟨?w17g2, ?h17g2⟩) ?s17g2 ?r17g2
        case e17g2 => (simp only [List.getElem?_toArray, List.getElem?_cons_zero, List.getElem?_cons_succ]; rfl)
        case a17g2 => kernel_rfl
        case b17g2 => kernel_rfl
        case c17g2 => kernel_rfl
        case q17g2 => exact fun _ _ _ h => h
        case w17g2 => rfl
        case s17g2 => assumption
        case h17g2 => (intro W hSw; obtain ⟨a0, a1, a2, a3, a4, a5, a6, a7⟩ := cells8 hSw; go_simp; try with_reducible rfl)
        try simp only [Act.put, List.setIfInBounds_toArray, List.set_cons_zero, List.set_cons_succ]
        refine wpAnyH_take (i := 18) (oi := ?o18g2) (v := ?v18g2) ?e18g2 ?a18g2 ?b18g2 ?c18g2 ?q18g2 (Or.inl ⟨?w18g2, ?h18g2⟩) ?s18g2 ?r18g2
        case e18g2 => (simp only [List.getElem?_toArray, List.getElem?_cons_zero, List.getElem?_cons_succ]; rfl)
        case a18g2 => kernel_rfl
        case b18g2 => kernel_rfl
        case c18g2 => kernel_rfl
        case q18g2 => exact fun _ _ _ h => h
        case w18g2 => rfl
        case s18g2 => assumption
        case h18g2 => (intro W hSw; obtain ⟨a0, a1, a2, a3, a4, a5, a6, a7⟩ := cells8 hSw; go_simp; try with_reducible rfl)
        try simp only [Act.put, List.setIfInBounds_toArray, List.set_cons_zero, List.set_cons_succ]
        refine wpAnyH_take (i := 19) (oi := ?o19g2) (v := ?v19g2) ?e19g2 ?a19g2 ?b19g2 ?c19g2 ?q19g2 (Or.inl ⟨?w19g2, ?h19g2⟩) ?s19g2 ?r19g2
        case e19g2 => (simp only [List.getElem?_toArray, List.getElem?_cons_zero, List.getElem?_cons_succ]; rfl)
        case a19g2 => kernel_rfl
        case b19g2 => kernel_rfl
        case c19g2 => kernel_rfl
        case q19g2 => exact fun _ _ _ h => h
        case w19g2 => rfl
        case s19g2 => assumption
        case h19g2 => (intro W hSw; obtain ⟨a0, a1, a2, a3, a4, a5, a6, a7⟩ := cells8 hSw; go_simp; try with_reducible rfl)
        try simp only [Act.put, List.setIfInBounds_toArray, List.set_cons_zero, List.set_cons_succ]
        refine wpAnyH_take (i := 20) (oi := ?o20g2) (v := ?v20g2) ?e20g2 ?a20g2 ?b20g2 ?c20g2 ?q20g2 (Or.inl ⟨?w20g2, ?h20g2⟩) ?s20g2 ?r20g2
        case e20g2 => (simp only [List.getElem?_toArray, List.getElem?_cons_zero, List.getElem?_cons_succ]; rfl)
        case a20g2 => kernel_rfl
        case b20g2 => kernel_rfl
        case c20g2 => kernel_rfl
        case q20g2 => exact fun _ _ _ h => h
        case w20g2 => rfl
        case s20g2 => assumption
        case h20g2 => (intro W hSw; obtain ⟨a0, a1, a2, a3, a4, a5, a6, a7⟩ := cells8 hSw; go_simp; try with_reducible rfl)
        try simp only [Act.put, List.setIfInBounds_toArray, List.set_cons_zero, List.set_cons_succ]
        refine wpAnyH_take (i := 21) (oi := ?o21g2) (v := ?v21g2) ?e21g2 ?a21g2 ?b21g2 ?c21g2 ?q21g2 (Or.inl ⟨?w21g2, ?h21g2⟩) ?s21g2 ?r21g2
        case e21g2 => (simp only [List.getElem?_toArray, List.getElem?_cons_zero, List.getElem?_cons_succ]; rfl)
        case a21g2 => kernel_rfl
        case b21g2 => kernel_rfl
        case c21g2 => kernel_rfl
        case q21g2 => exact fun _ _ _ h => h
        case w21g2 => rfl
        case s21g2 => assumption
        case h21g2 => (intro W hSw; obtain ⟨a0, a1, a2, a3, a4, a5, a6, a7⟩ := cells8 hSw; go_simp; try with_reducible rfl)
        try simp only [Act.put, List.setIfInBounds_toArray, List.set_cons_zero, List.set_cons_succ]
        refine wpAnyH_take (i := 22) (oi := ?o22g2) (v := ?v22g2) ?e22g2 ?a22g2 ?b22g2 ?c22g2 ?q22g2 (Or.inl ⟨?w22g2, ?h22g2⟩) ?s22g2 ?r22g2
        case e22g2 => (simp only [List.getElem?_toArray, List.getElem?_cons_zero, List.getElem?_cons_succ]; rfl)
        case a22g2 => kernel_rfl
        case b22g2 => kernel_rfl
        case c22g2 => kernel_rfl
        case q22g2 => exact fun _ _ _ h => h
        case w22g2 => rfl
        case s22g2 => assumption
        case h22g2 => (intro W hSw; obtain ⟨a0, a1, a2, a3, a4, a5, a6, a7⟩ := cells8 hSw; go_simp; try with_reducible rfl)
        try simp only [Act.put, List.setIfInBounds_toArray, List.set_cons_zero, List.set_cons_succ]
        refine wpAnyH_take (i := 23) (oi := ?o23g2) (v := ?v23g2) ?e23g2 ?a23g2 ?b23g2 ?c23g2 ?q23g2 (Or.inl ⟨?w23g2, ?h23g2⟩) ?s23g2 ?r23g2
        case e23g2 => (simp only [List.getElem?_toArray, List.getElem?_cons_zero, List.getElem?_cons_succ]; rfl)
        case a23g2 => kernel_rfl
        case b23g2 => kernel_rfl
        case c23g2 => kernel_rfl
        case q23g2 => exact fun _ _ _ h => h
        case w23g2 => rfl
        case s23g2 => assumption
        case h23g2 => (intro W hSw; obtain ⟨a0, a1, a2, a3, a4, a5, a6, a7⟩ := cells8 hSw; go_simp; try with_reducible rfl)
        try simp only [Act.put, List.setIfInBounds_toArray, List.set_cons_zero, List.set_cons_succ]
        refine wpAnyH_take (i := 24) (oi := ?o24g2) (v := ?v24g2) ?e24g2 ?a24g2 ?b24g2 ?c24g2 ?q24g2 (Or.inl ⟨?w24g2, ?h24g2⟩) ?s24g2 ?r24g2
        case e24g2 => (simp only [List.getElem?_toArray, List.getElem?_cons_zero, List.getElem?_cons_succ]; rfl)
        case a24g2 => kernel_rfl
        case b24g2 => kernel_rfl
        case c24g2 => kernel_rfl
        case q24g2 => exact fun _ _ _ h => h
        case w24g2 => rfl
        case s24g2 => assumption
        case h24g2 => (intro W hSw; obtain ⟨a0, a1, a2, a3, a4, a5, a6, a7⟩ := cells8 hSw; go_simp; try with_reducible rfl)
        try simp only [Act.put, List.setIfInBounds_toArray, List.set_cons_zero, List.set_cons_succ]
        refine wpAnyH_take (i := 25) (oi := ?o25g2) (v := ?v25g2) ?e25g2 ?a25g2 ?b25g2 ?c25g2 ?q25g2 (Or.inl ⟨?w25g2, ?h25g2⟩) ?s25g2 ?r25g2
        case e25g2 => (simp only [List.getElem?_toArray, List.getElem?_cons_zero, List.getElem?_cons_succ]; rfl)
        case a25g2 => kernel_rfl
        case b25g2 => kernel_rfl
        case c25g2 => kernel_rfl
        case q25g2 => exact fun _ _ _ h => h
        case w25g2 => rfl
        case s25g2 => assumption
        case h25g2 => (intro W hSw; obtain ⟨a0, a1, a2, a3, a4, a5, a6, a7⟩ := cells8 hSw; go_simp; try with_reducible rfl)
        try simp only [Act.put, List.setIfInBounds_toArray, List.set_cons_zero, List.set_cons_succ]
        refine wpAnyH_take (i := 26) (oi := ?o26g2) (v := ?v26g2) ?e26g2 ?a26g2 ?b26g2 ?c26g2 ?q26g2 (Or.inl ⟨?w26g2, ?h26g2⟩) ?s26g2 ?r26g2
        case e26g2 => (simp only [List.getElem?_toArray, List.getElem?_cons_zero, List.getElem?_cons_succ]; rfl)
        case a26g2 => kernel_rfl
        case b26g2 => kernel_rfl
        case c26g2 => kernel_rfl
        case q26g2 => exact fun _ _ _ h => h
        case w26g2 => rfl
        case s26g2 => assumption
        case h26g2 => (intro W hSw; obtain ⟨a0, a1, a2, a3, a4, a5, a6, a7⟩ := cells8 hSw; go_simp; try with_reducible rfl)
        try simp only [Act.put, List.setIfInBounds_toArray, List.set_cons_zero, List.set_cons_succ]
        refine wpAnyH_take (i := 27) (oi := ?o27g2) (v := ?v27g2) ?e27g2 ?a27g2 ?b27g2 ?c27g2 ?q27g2 (Or.inl ⟨?w27g2, ?h27g2⟩) ?s27g2 ?r27g2
        case e27g2 => (simp only [List.getElem?_toArray, List.getElem?_cons_zero, List.getElem?_cons_succ]; rfl)
        case a27g2 => kernel_rfl
        case b27g2 => kernel_rfl
        case c27g2 => kernel_rfl
        case q27g2 => exact fun _ _ _ h => h
        case w27g2 => rfl
        case s27g2 => assumption
        case h27g2 => (intro W hSw; obtain ⟨a0, a1, a2, a3, a4, a5, a6, a7⟩ := cells8 hSw; go_simp; try with_reducible rfl)
        try simp only [Act.put, List.setIfInBounds_toArray, List.set_cons_zero, List.set_cons_succ]
        refine wpAnyH_take (i := 28) (oi := ?o28g2) (v := ?v28g2) ?e28g2 ?a28g2 ?b28g2 ?c28g2 ?q28g2 (Or.inl ⟨?w28g2, ?h28g2⟩) ?s28g2 ?r28g2
        case e28g2 => (simp only [List.getElem?_toArray, List.getElem?_cons_zero, List.getElem?_cons_succ]; rfl)
        case a28g2 => kernel_rfl
        case b28g2 => kernel_rfl
        case c28g2 => kernel_rfl
        case q28g2 => exact fun _ _ _ h => h
        case w28g2 => rfl
        case s28g2 => assumption
        case h28g2 => (intro W hSw; obtain ⟨a0, a1, a2, a3, a4, a5, a6, a7⟩ := cells8 hSw; go_simp; try with_reducible rfl)
        try simp only [Act.put, List.setIfInBounds_toArray, List.set_cons_zero, List.set_cons_succ]
        refine wpAnyH_take (i := 29) (oi := ?o29g2) (v := ?v29g2) ?e29g2 ?a29g2 ?b29g2 ?c29g2 ?q29g2 (Or.inl ⟨?w29g2, ?h29g2⟩) ?s29g2 ?r29g2
        case e29g2 => (simp only [List.getElem?_toArray, List.getElem?_cons_zero, List.getElem?_cons_succ]; rfl)
        case a29g2 => kernel_rfl
        case b29g2 => kernel_rfl
        case c29g2 => kernel_rfl
        case q29g2 => exact fun _ _ _ h => h
        case w29g2 => rfl
        case s29g2 => assumption
        case h29g2 => (intro W hSw; obtain ⟨a0, a1, a2, a3, a4, a5, a6, a7⟩ := cells8 hSw; go_simp; try with_reducible rfl)
        try simp only [Act.put, List.setIfInBounds_toArray, List.set_cons_zero, List.set_cons_succ]
        refine wpAnyH_take (i := 30) (oi := ?o30g2) (v := ?v30g2) ?e30g2 ?a30g2 ?b30g2 ?c30g2 ?q30g2 (Or.inl ⟨?w30g2, ?h30g2⟩) ?s30g2 ?r30g2
        case e30g2 => (simp only [List.getElem?_toArray, List.getElem?_cons_zero, List.getElem?_cons_succ]; rfl)
        case a30g2 => kernel_rfl
        case b30g2 => kernel_rfl
        case c30g2 => kernel_rfl
        case q30g2 => exact fun _ _ _ h => h
        case w30g2 => rfl
        case s30g2 => assumption
        case h30g2 => (intro W hSw; obtain ⟨a0, a1, a2, a3, a4, a5, a6, a7⟩ := cells8 hSw; go_simp; try with_reducible rfl)
        try simp only [Act.put, List.setIfInBounds_toArray, List.set_cons_zero, List.set_cons_succ]
        refine wpAnyH_take (i := 31) (oi := ?o31g2) (v := ?v31g2) ?e31g2 ?a31g2 ?b31g2 ?c31g2 ?q31g2 (Or.inl ⟨?w31g2, ?h31g2⟩) ?s31g2 ?r31g2
        case e31g2 => (simp only [List.getElem?_toArray, List.getElem?_cons_zero, List.getElem?_cons_succ]; rfl)
        case a31g2 => kernel_rfl
        case b31g2 => kernel_rfl
        case c31g2 => kernel_rfl
        case q31g2 => exact fun _ _ _ h => h
        case w31g2 => rfl
        case s31g2 => assumption
        case h31g2 => (intro W hSw; obtain ⟨a0, a1, a2, a3, a4, a5, a6, a7⟩ := cells8 hSw; go_simp; try with_reducible rfl)
        try simp only [Act.put, List.setIfInBounds_toArray, List.set_cons_zero, List.set_cons_succ]
        try simp only [d3]
        refine wpAnyH_take (i := 32) (oi := ?o32g2) (v := ?v32g2) ?e32g2 ?a32g2 ?b32g2 ?c32g2 ?q32g2 (Or.inl ⟨?w32g2, ?h32g2⟩) ?s32g2 ?r32g2
        case e32g2 => (simp only [List.getElem?_toArray, List.getElem?_cons_zero, List.getElem?_cons_succ]; rfl)
        case a32g2 => kernel_rfl
        case b32g2 => kernel_rfl
        case c32g2 => kernel_rfl
        case q32g2 => exact fun _ _ _ h => h
        case w32g2 => rfl
        case s32g2 => assumption
        case h32g2 => (intro W hSw; obtain ⟨a0, a1, a2, a3, a4, a5, a6, a7⟩ := cells8 hSw; go_simp; try with_reducible rfl)
        try simp only [Act.put, List.setIfInBounds_toArray, List.set_cons_zero, List.set_cons_succ]
        refine wpAnyH_done (by kernel_rfl) ?_ _
        go_wp2
        go_ret
        exact ⟨rfl, HBV1.out⟩
      · have d3 : decide (max l9 1 < vs + (n : Nat)) = false := decide_eq_false h3
        rw [if_neg (fun g => g.elim h2 h3)]
        clear h2 h3
        go_enter Try.func20, Try.ntmps20
        go_upto_region 5 with (go_at_call 34; (with_reducible refine HR.out.mono ?_); rintro e w1 ⟨rfl, hb1⟩; have HB1 := Lib.hid hb1; clear hb1)
        have hS0 : (fun V : World => V.heap[c]? = some (obN l0 l9 rev fl (.map mb) ks vs od)) w1.drew := (H.out.go (btr HB1.out (bdr w1))).hs
        obtain ⟨V9, hV9⟩ : ∃ V9, V9 = w1.drew := ⟨_, rfl⟩
        have HB9 : Hid (Below w.heap.size w V9) := by rw [hV9]; exact Lib.hid (btr HB1.out (bdr w1))
        have hS9 : (fun V : World => V.heap[c]? = some (obN l0 l9 rev fl (.map mb) ks vs od)) V9 := by rw [hV9]; exact hS0
        refine wp_region_held_drew (S := (fun V : World => V.heap[c]? = some (obN l0 l9 rev fl (.map mb) ks vs od))) (by kernel_rfl) hS0 (fun hHeld => ?_)
        rw [← hV9] at hHeld ⊢
        clear hV9 hS0 hHeld
        refine wpAnyH_take (i := 0) (oi := ?o0g3) (v := ?v0g3) ?e0g3 ?a0g3 ?b0g3 ?c0g3 ?q0g3 (Or.inl ⟨?w0g3, ?h0g3⟩) ?s0g3 ?r0g3
        case e0g3 => (simp only [List.getElem?_toArray, List.getElem?_cons_zero, List.getElem?_cons_succ]; rfl)
        case a0g3 => kernel_rfl
        case b0g3 => kernel_rfl
        case c0g3 => kernel_rfl
        case q0g3 => exact fun _ _ _ h => h
        case w0g3 => rfl
        case s0g3 => assumption
        case h0g3 => (intro W hSw; obtain ⟨a0, a1, a2, a3, a4, a5, a6, a7⟩ := cells8 hSw; go_simp; try with_reducible rfl)
        try simp only [Act.put, List.setIfInBounds_toArray, List.set_cons_zero, List.set_cons_succ]
        refine wpAnyH_take (i := 1) (oi := ?o1g3) (v := ?v1g3) ?e1g3 ?a1g3 ?b1g3 ?c1g3 ?q1g3 (Or.inl ⟨?w1g3, ?h1g3⟩) ?s1g3 ?r1g3
        case e1g3 => (simp only [List.getElem?_toArray, List.getElem?_cons_zero, List.getElem?_cons_succ]; rfl)
        case a1g3 => kernel_rfl
        case b1g3 => kernel_rfl
        case c1g3 => kernel_rfl
        case q1g3 => exact fun _ _ _ h => h
        case w1g3 => rfl
        case s1g3 => assumption
        case h1g3 => (intro W hSw; obtain ⟨a0, a1, a2, a3, a4, a5, a6, a7⟩ := cells8 hSw; go_simp; try with_reducible rfl)
        try simp only [Act.put, List.setIfInBounds_toArray, List.set_cons_zero, List.set_cons_succ]
        refine wpAnyH_take (i := 2) (oi := ?o2g3) (v := ?v2g3) ?e2g3 ?a2g3 ?b2g3 ?c2g3 ?q2g3 (Or.inl ⟨?w2g3, ?h2g3⟩) ?s2g3 ?r2g3
        case e2g3 => (simp only [List.getElem?_toArray, List.getElem?_cons_zero, List.getElem?_cons_succ]; rfl)
        case a2g3 => kernel_rfl
        case b2g3 => kernel_rfl
        case c2g3 => kernel_rfl
        case q2g3 => exact fun _ _ _ h => h
        case w2g3 => rfl
        case s2g3 => assumption
        case h2g3 => (intro W hSw; obtain ⟨a0, a1, a2, a3, a4, a5, a6, a7⟩ := cells8 hSw; go_simp; try with_reducible rfl)
        try simp only [Act.put, List.setIfInBounds_toArray, List.set_cons_zero, List.set_cons_succ]
        refine wpAnyH_take (i := 3) (oi := ?o3g3) (v := ?v3g3) ?e3g3 ?a3g3 ?b3g3 ?c3g3 ?q3g3 (Or.inl ⟨?w3g3, ?h3g3⟩) ?s3g3 ?r3g3
        case e3g3 => (simp only [List.getElem?_toArray, List.getElem?_cons_zero, List.getElem?_cons_succ]; rfl)
        case a3g3 => kernel_rfl
        case b3g3 => kernel_rfl
        case c3g3 => kernel_rfl
        case q3g3 => exact fun _ _ _ h => h
        case w3g3 => rfl
        case s3g3 => assumption
        case h3g3 => (intro W hSw; obtain ⟨a0, a1, a2, a3, a4, a5, a6, a7⟩ := cells8 hSw; go_simp; try with_reducible rfl)
        try simp only [Act.put, List.setIfInBounds_toArray, List.set_cons_zero, List.set_cons_succ]
        refine wpAnyH_take (i := 4) (oi := ?o4g3) (v := ?v4g3) ?e4g3 ?a4g3 ?b4g3 ?c4g3 ?q4g3 (Or.inl ⟨?w4g3, ?h4g3⟩) ?s4g3 ?r4g3
        case e4g3 => (simp only [List.getElem?_toArray, List.getElem?_cons_zero, List.getElem?_cons_succ]; rfl)
        case a4g3 => kernel_rfl
        case b4g3 => kernel_rfl
        case c4g3 => kernel_rfl
        case q4g3 => exact fun _ _ _ h => h
        case w4g3 => rfl
        case s4g3 => assumption
        case h4g3 => (intro W hSw; obtain ⟨a0, a1, a2, a3, a4, a5, a6, a7⟩ := cells8 hSw; go_simp; try with_reducible rfl)
        try simp only [Act.put, List.setIfInBounds_toArray, List.set_cons_zero, List.set_cons_succ]
        try simp only [d1]
        refine wpAnyH_take (i := 5) (oi := ?o5g3) (v := ?v5g3) ?e5g3 ?a5g3 ?b5g3 ?c5g3 ?q5g3 (Or.inl ⟨?w5g3, ?h5g3⟩) ?s5g3 ?r5g3
        case e5g3 => (simp only [List.getElem?_toArray, List.getElem?_cons_zero, List.getElem?_cons_succ]; rfl)
        case a5g3 => kernel_rfl
        case b5g3 => kernel_rfl
        case c5g3 => kernel_rfl
        case q5g3 => exact fun _ _ _ h => h
        case w5g3 => rfl
        case s5g3 => assumption
        case h5g3 => (intro W hSw; obtain ⟨a0, a1, a2, a3, a4, a5, a6, a7⟩ := cells8 hSw; go_simp; try with_reducible rfl)
        try simp only [Act.put, List.setIfInBounds_toArray, List.set_cons_zero, List.set_cons_succ]
        refine wpAnyH_take (i := 6) (oi := ?o6g3) (v := ?v6g3) ?e6g3 ?a6g3 ?b6g3 ?c6g3 ?q6g3 (Or.inl ⟨?w6g3, ?h6g3⟩) ?s6g3 ?r6g3
        case e6g3 => (simp only [List.getElem?_toArray, List.getElem?_cons_zero, List.getElem?_cons_succ]; rfl)
        case a6g3 => kernel_rfl
        case b6g3 => kernel_rfl
        case c6g3 => kernel_rfl
        case q6g3 => exact fun _ _ _ h => h
        case w6g3 => rfl
        case s6g3 => assumption
        case h6g3 => (intro W hSw; obtain ⟨a0, a1, a2, a3, a4, a5, a6, a7⟩ := cells8 hSw; go_simp; try with_reducible rfl)
        try simp only [Act.put, List.setIfInBounds_toArray, List.set_cons_zero, List.set_cons_succ]
        refine wpAnyH_take (i := 7) (oi := ?o7g3) (v := ?v7g3) ?e7g3 ?a7g3 ?b7g3 ?c7g3 ?q7g3 (Or.inl ⟨?w7g3, ?h7g3⟩) ?s7g3 ?r7g3
        case e7g3 => (simp only [List.getElem?_toArray, List.getElem?_cons_zero, List.getElem?_cons_succ]; rfl)
        case a7g3 => kernel_rfl
        case b7g3 => kernel_rfl
        case c7g3 => kernel_rfl
        case q7g3 => exact fun _ _ _ h => h
        case w7g3 => rfl
        case s7g3 => assumption
        case h7g3 => (intro W hSw; obtain ⟨a0, a1, a2, a3, a4, a5, a6, a7⟩ := cells8 hSw; go_simp; try with_reducible rfl)
        try simp only [Act.put, List.setIfInBounds_toArray, List.set_cons_zero, List.set_cons_succ]
        refine wpAnyH_take (i := 9) (oi := ?o9g3) (v := ?v9g3) ?e9g3 ?a9g3 ?b9g3 ?c9g3 ?q9g3 (Or.inl ⟨?w9g3, ?h9g3⟩) ?s9g3 ?r9g3
        case e9g3 => (simp only [List.getElem?_toArray, List.getElem?_cons_zero, List.getElem?_cons_succ]; rfl)
        case a9g3 => kernel_rfl
        case b9g3 => kernel_rfl
        case c9g3 => kernel_rfl
        case q9g3 => exact fun _ _ _ h => h
        case w9g3 => rfl
        case s9g3 => assumption
        case h9g3 => (intro W hSw; obtain ⟨a0, a1, a2, a3, a4, a5, a6, a7⟩ := cells8 hSw; go_simp; try with_reducible rfl)
        try simp only [Act.put, List.setIfInBounds_toArray, List.set_cons_zero, List.set_cons_succ]
        refine wpAnyH_take (i := 10) (oi := ?o10g3) (v := ?v10g3) ?e10g3 ?a10g3 ?b10g3 ?c10g3 ?q10g3 (Or.inl ⟨?w10g3, ?h10g3⟩) ?s10g3 ?r10g3
        case e10g3 => (simp only [List.getElem?_toArray, List.getElem?_cons_zero, List.getElem?_cons_succ]; rfl)
        case a10g3 => kernel_rfl
        case b10g3 => kernel_rfl
        case c10g3 => kernel_rfl
        case q10g3 => exact fun _ _ _ h => h
        case w10g3 => rfl
        case s10g3 => assumption
        case h10g3 => (intro W hSw; obtain ⟨a0, a1, a2, a3, a4, a5, a6, a7⟩ := cells8 hSw; go_simp; try with_reducible rfl)
        try simp only [Act.put, List.setIfInBounds_toArray, List.set_cons_zero, List.set_cons_succ]
        refine wpAnyH_take (i := 11) (oi := ?o11g3) (v := ?v11g3) ?e11g3 ?a11g3 ?b11g3 ?c11g3 ?q11g3 (Or.inl ⟨?w11g3, ?h11g3⟩) ?s11g3 ?r11g3
        case e11g3 => (simp only [List.getElem?_toArray, List.getElem?_cons_zero, List.getElem?_cons_succ]; rfl)
        case a11g3 => kernel_rfl
        case b11g3 => kernel_rfl
        case c11g3 => kernel_rfl
        case q11g3 => exact fun _ _ _ h => h
        case w11g3 => rfl
        case s11g3 => assumption
        case h11g3 => (intro W hSw; obtain ⟨a0, a1, a2, a3, a4, a5, a6, a7⟩ := cells8 hSw; go_simp; try with_reducible rfl)
        try simp only [Act.put, List.setIfInBounds_toArray, List.set_cons_zero, List.set_cons_succ]
        refine wpAnyH_take (i := 12) (oi := ?o12g3) (v := ?v12g3) ?e12g3 ?a12g3 ?b12g3 ?c12g3 ?q12g3 (Or.inl ⟨?w12g3, ?h12g3⟩) ?s12g3 ?r12g3
        case e12g3 => (simp only [List.getElem?_toArray, List.getElem?_cons_zero, List.getElem?_cons_succ]; rfl)
        case a12g3 => kernel_rfl
        case b12g3 => kernel_rfl
        case c12g3 => kernel_rfl
        case q12g3 => exact fun _ _ _ h => h
        case w12g3 => rfl
        case s12g3 => assumption
        case h12g3 => (intro W hSw; obtain ⟨a0, a1, a2, a3, a4, a5, a6, a7⟩ := cells8 hSw; go_simp; try with_reducible rfl)
        try simp only [Act.put, List.setIfInBounds_toArray, List.set_cons_zero, List.set_cons_succ]
        refine wpAnyH_take (i := 13) (oi := ?o13g3) (v := ?v13g3) ?e13g3 ?a13g3 ?b13g3 ?c13g3 ?q13g3 (Or.inl ⟨?w13g3, ?h13g3⟩) ?s13g3 ?r13g3
        case e13g3 => (simp only [List.getElem?_toArray, List.getElem?_cons_zero, List.getElem?_cons_succ]; rfl)
        case a13g3 => kernel_rfl
        case b13g3 => kernel_rfl
        case c13g3 => kernel_rfl
        case q13g3 => exact fun _ _ _ h => h
        case w13g3 => rfl
        case s13g3 => assumption
        case h13g3 => (intro W hSw; obtain ⟨a0, a1, a2, a3, a4, a5, a6, a7⟩ := cells8 hSw; go_simp; try with_reducible rfl)
        try simp only [Act.put, List.setIfInBounds_toArray, List.set_cons_zero, List.set_cons_succ]
        refine wpAnyH_take (i := 14) (oi := ?o14g3) (v := ?v14g3) ?e14g3 ?a14g3 ?b14g3 ?c14g3 ?q14g3 (Or.inl ⟨?w14g3, ?h14g3⟩) ?s14g3 ?r14g3
        case e14g3 => (simp only [List.getElem?_toArray, List.getElem?_cons_zero, List.getElem?_cons_succ]; rfl)
        case a14g3 => kernel_rfl
        case b14g3 => kernel_rfl
        case c14g3 => kernel_rfl
        case q14g3 => exact fun _ _ _ h => h
        case w14g3 => rfl
        case s14g3 => assumption
        case h14g3 => (intro W hSw; obtain ⟨a0, a1, a2, a3, a4, a5, a6, a7⟩ := cells8 hSw; go_simp; try with_reducible rfl)
        try simp only [Act.put, List.setIfInBounds_toArray, List.set_cons_zero, List.set_cons_succ]
        refine wpAnyH_ready (rs := [8]) (by kernel_rfl) (by simp) (AllReadyH.cons (o := ?o8z8g3) ?e8z8g3 (fun K hK => ?k8z8g3) AllReadyH.nil)
        case e8z8g3 => (simp only [List.getElem?_toArray, List.getElem?_cons_zero, List.getElem?_cons_succ]; rfl)
        go_simp
        (with_reducible refine (HK.out V9 HB9.out).mono ?_)
        rintro e V1 ⟨rfl, hbA⟩
        have HBV1 := Lib.hid (btr HB9.out hbA)
        have hS1 : (fun V : World => V.heap[c]? = some (obN l0 l9 rev fl (.map mb) ks vs od)) V1 := (H.out.go HBV1.out).hs
        clear hbA
        go_wp2_with fail
        refine hK.out _ _ hS1 (fun _ => ?_)
        clear hK K
        try simp only [Act.put, List.setIfInBounds_toArray, List.set_cons_zero, List.set_cons_succ]
        refine wpAnyH_take (i := 15) (oi := ?o15g3) (v := ?v15g3) ?e15g3 ?a15g3 ?b15g3 ?c15g3 ?q15g3 (Or.inl ⟨?w15g3, ?h15g3⟩) ?s15g3 ?r15g3
        case e15g3 => (simp only [List.getElem?_toArray, List.getElem?_cons_zero, List.getElem?_cons_succ]; rfl)
        case a15g3 => kernel_rfl
        case b15g3 => kernel_rfl
        case c15g3 => kernel_rfl
        case q15g3 => exact fun _ _ _ h => h
        case w15g3 => rfl
        case s15g3 => assumption
        case h15g3 => (intro W hSw; obtain ⟨a0, a1, a2, a3, a4, a5, a6, a7⟩ := cells8 hSw; go_simp; try with_reducible rfl)
        try simp only [Act.put, List.setIfInBounds_toArray, List.set_cons_zero, List.set_cons_succ]
        try simp only [d2]
        refine wpAnyH_take (i := 16) (oi := ?o16g3) (v := ?v16g3) ?e16g3 ?a16g3 ?b16g3 ?c16g3 ?q16g3 (Or.inl ⟨?w16g3, ?h16g3⟩) ?s16g3 ?r16g3
        case e16g3 => (simp only [List.getElem?_toArray, List.getElem?_cons_zero, List.getElem?_cons_succ]; rfl)
        case a16g3 => kernel_rfl
        case b16g3 => kernel_rfl
        case c16g3 => kernel_rfl
        case q16g3 => exact fun _ _ _ h => h
        case w16g3 => rfl
        case s16g3 => assumption
        case h16g3 => (intro W hSw; obtain ⟨a0, a1, a2, a3, a4, a5, a6, a7⟩ := cells8 hSw; go_simp; try with_reducible rfl)
        try simp only [Act.put, List.setIfInBounds_toArray, List.set_cons_zero, List.set_cons_succ]
        refine wpAnyH_take (i := 17) (oi := ?o17g3) (v := ?v17g3) ?e17g3 ?a17g3 ?b17g3 ?c17g3 ?q17g3 (Or.inl ⟨?w17g3, ?h17g3⟩) ?s17g3 ?r17g3
        case e17g3 => (simp only [List.getElem?_toArray, List.getElem?_cons_zero, List.getElem?_cons_succ]; rfl)
        case a17g3 => kernel_rfl
        case b17g3 => kernel_rfl
        case c17g3 => kernel_rfl
        case q17g3 => exact fun _ _ _ h => h
        case w17g3 => rfl
        case s17g3 => assumption
        case h17g3 => (intro W hSw; obtain ⟨a0, a1, a2, a3, a4, a5, a6, a7⟩ := cells8 hSw; go_simp; try with_reducible rfl)
        try simp only [Act.put, List.setIfInBounds_toArray, List.set_cons_zero, List.set_cons_succ]
        refine wpAnyH_take (i := 18) (oi := ?o18g3) (v := ?v18g3) ?e18g3 ?a18g3 ?b18g3 ?c18g3 ?q18g3 (Or.inl ⟨?w18g3, ?h18g3⟩) ?s18g3 ?r18g3
        case e18g3 => (simp only [List.getElem?_toArray, List.getElem?_cons_zero, List.getElem?_cons_succ]; rfl)
        case a18g3 => kernel_rfl
        case b18g3 => kernel_rfl
        case c18g3 => kernel_rfl
        case q18g3 => exact fun _ _ _ h => h
        case w18g3 => rfl
        case s18g3 => assumption
        case h18g3 => (intro W hSw; obtain ⟨a0, a1, a2, a3, a4, a5, a6, a7⟩ := cells8 hSw; go_simp; try with_reducible rfl)
        try simp only [Act.put, List.setIfInBounds_toArray, List.set_cons_zero, List.set_cons_succ]
        refine wpAnyH_take (i := 19) (oi := ?o19g3) (v := ?v19g3) ?e19g3 ?a19g3 ?b19g3 ?c19g3 ?q19g3 (Or.inl ⟨?w19g3, ?h19g3⟩) ?s19g3 ?r19g3
        case e19g3 => (simp only [List.getElem?_toArray, List.getElem?_cons_zero, List.getElem?_cons_succ]; rfl)
        case a19g3 => kernel_rfl
        case b19g3 => kernel_rfl
        case c19g3 => kernel_rfl
        case q19g3 => exact fun _ _ _ h => h
        case w19g3 => rfl
        case s19g3 => assumption
        case h19g3 => (intro W hSw; obtain ⟨a0, a1, a2, a3, a4, a5, a6, a7⟩ := cells8 hSw; go_simp; try with_reducible rfl)
        try simp only [Act.put, List.setIfInBounds_toArray, List.set_cons_zero, List.set_cons_succ]
        refine wpAnyH_take (i := 20) (oi := ?o20g3) (v := ?v20g3) ?e20g3 ?a20g3 ?b20g3 ?c20g3 ?q20g3 (Or.inl ⟨?w20g3, ?h20g3⟩) ?s20g3 ?r20g3
        case e20g3 => (simp only [List.getElem?_toArray, List.getElem?_cons_zero, List.getElem?_cons_succ]; rfl)
        case a20g3 => kernel_rfl
        case b20g3 => kernel_rfl
        case c20g3 => kernel_rfl
        case q20g3 => exact fun _ _ _ h => h
        case w20g3 => rfl
        case s20g3 => assumption
        case h20g3 => (intro W hSw; obtain ⟨a0, a1, a2, a3, a4, a5, a6, a7⟩ := cells8 hSw; go_simp; try with_reducible rfl)
        try simp only [Act.put, List.setIfInBounds_toArray, List.set_cons_zero, List.set_cons_succ]
        refine wpAnyH_take (i := 21) (oi := ?o21g3) (v := ?v21g3) ?e21g3 ?a21g3 ?b21g3 ?c21g3 ?q21g3 (Or.inl ⟨?w21g3, ?h21g3⟩) ?s21g3 ?r21g3
        case e21g3 => (simp only [List.getElem?_toArray, List.getElem?_cons_zero, List.getElem?_cons_succ]; rfl)
        case a21g3 => kernel_rfl
        case b21g3 => kernel_rfl
        case c21g3 => kernel_rfl
        case q21g3 => exact fun _ _ _ h => h
        case w21g3 => rfl
        case s21g3 => assumption
        case h21g3 => (intro W hSw; obtain ⟨a0, a1, a2, a3, a4, a5, a6, a7⟩ := cells8 hSw; go_simp; try with_reducible rfl)
        try simp only [Act.put, List.setIfInBounds_toArray, List.set_cons_zero, List.set_cons_succ]
        refine wpAnyH_take (i := 22) (oi := ?o22g3) (v := ?v22g3) ?e22g3 ?a22g3 ?b22g3 ?c22g3 ?q22g3 (Or.inl ⟨?w22g3, ?h22g3⟩) ?s22g3 ?r22g3
        case e22g3 => (simp only [List.getElem?_toArray, List.getElem?_cons_zero, List.getElem?_cons_succ]; rfl)
        case a22g3 => kernel_rfl
        case b22g3 => kernel_rfl
        case c22g3 => kernel_rfl
        case q22g3 => exact fun _ _ _ h => h
        case w22g3 => rfl
        case s22g3 => assumption
        case h22g3 => (intro W hSw; obtain ⟨a0, a1, a2, a3, a4, a5, a6, a7⟩ := cells8 hSw; go_simp; try with_reducible rfl)
        try simp only [Act.put, List.setIfInBounds_toArray, List.set_cons_zero, List.set_cons_succ]
        refine wpAnyH_take (i := 23) (oi := ?o23g3) (v := ?v23g3) ?e23g3 ?a23g3 ?b23g3 ?c23g3 ?q23g3 (Or.inl ⟨?w23g3, ?h23g3⟩) ?s23g3 ?r23g3
        case e23g3 => (simp only [List.getElem?_toArray, List.getElem?_cons_zero, List.getElem?_cons_succ]; rfl)
        case a23g3 => kernel_rfl
        case b23g3 => kernel_rfl
        case c23g3 => kernel_rfl
        case q23g3 => exact fun _ _ _ h => h
        case w23g3 => rfl
        case s23g3 => assumption
        case h23g3 => (intro W hSw; obtain ⟨a0, a1, a2, a3, a4, a5, a6, a7⟩ := cells8 hSw; go_simp; try with_reducible rfl)
        try simp only [Act.put, List.setIfInBounds_toArray, List.set_cons_zero, List.set_cons_succ]
        refine wpAnyH_take (i := 24) (oi := ?o24g3) (v := ?v24g3) ?e24g3 ?a24g3 ?b24g3 ?c24g3 ?q24g3 (Or.inl ⟨?w24g3, ?h24g3⟩) ?s24g3 ?r24g3
        case e24g3 => (simp only [List.getElem?_toArray, List.getElem?_cons_zero, List.getElem?_cons_succ]; rfl)
        case a24g3 => kernel_rfl
        case b24g3 => kernel_rfl
        case c24g3 => kernel_rfl
        case q24g3 => exact fun _ _ _ h => h
        case w24g3 => rfl
        case s24g3 => assumption
        case h24g3 => (intro W hSw; obtain ⟨a0, a1, a2, a3, a4, a5, a6, a7⟩ := cells8 hSw; go_simp; try with_reducible rfl)
        try simp only [Act.put, List.setIfInBounds_toArray, List.set_cons_zero, List.set_cons_succ]
        refine wpAnyH_take (i := 25) (oi := ?o25g3) (v := ?v25g3) ?e25g3 ?a25g3 ?b25g3 ?c25g3 ?q25g3 (Or.inl ⟨?w25g3, ?h25g3⟩) ?s25g3 ?r25g3
        case e25g3 => (simp only [List.getElem?_toArray, List.getElem?_cons_zero, List.getElem?_cons_succ]; rfl)
        case a25g3 => kernel_rfl
        case b25g3 => kernel_rfl
        case c25g3 => kernel_rfl
        case q25g3 => exact fun _ _ _ h => h
        case w25g3 => rfl
        case s25g3 => assumption
        case h25g3 => (intro W hSw; obtain ⟨a0, a1, a2, a3, a4, a5, a6, a7⟩ := cells8 hSw; go_simp; try with_reducible rfl)
        try simp only [Act.put, List.setIfInBounds_toArray, List.set_cons_zero, List.set_cons_succ]
        refine wpAnyH_take (i := 26) (oi := ?o26g3) (v := ?v26g3) ?e26g3 ?a26g3 ?b26g3 ?c26g3 ?q26g3 (Or.inl ⟨?w26g3, ?h26g3⟩) ?s26g3 ?r26g3
        case e26g3 => (simp only [List.getElem?_toArray, List.getElem?_cons_zero, List.getElem?_cons_succ]; rfl)
        case a26g3 => kernel_rfl
        case b26g3 => kernel_rfl
        case c26g3 => kernel_rfl
        case q26g3 => exact fun _ _ _ h => h
        case w26g3 => rfl
        case s26g3 => assumption
        case h26g3 => (intro W hSw; obtain ⟨a0, a1, a2, a3, a4, a5, a6, a7⟩ := cells8 hSw; go_simp; try with_reducible rfl)
        try simp only [Act.put, List.setIfInBounds_toArray, List.set_cons_zero, List.set_cons_succ]
        refine wpAnyH_take (i := 27) (oi := ?o27g3) (v := ?v27g3) ?e27g3 ?a27g3 ?b27g3 ?c27g3 ?q27g3 (Or.inl ⟨?w27g3, ?h27g3⟩) ?s27g3 ?r27g3
        case e27g3 => (simp only [List.getElem?_toArray, List.getElem?_cons_zero, List.getElem?_cons_succ]; rfl)
        case a27g3 => kernel_rfl
        case b27g3 => kernel_rfl
        case c27g3 => kernel_rfl
        case q27g3 => exact fun _ _ _ h => h
        case w27g3 => rfl
        case s27g3 => assumption
        case h27g3 => (intro W hSw; obtain ⟨a0, a1, a2, a3, a4, a5, a6, a7⟩ := cells8 hSw; go_simp; try with_reducible rfl)
        try simp only [Act.put, List.setIfInBounds_toArray, List.set_cons_zero, List.set_cons_succ]
        refine wpAnyH_take (i := 28) (oi := ?o28g3) (v := ?v28g3) ?e28g3 ?a28g3 ?b28g3 ?c28g3 ?q28g3 (Or.inl ⟨?w28g3, ?h28g3⟩) ?s28g3 ?r28g3
        case e28g3 => (simp only [List.getElem?_toArray, List.getElem?_cons_zero, List.getElem?_cons_succ]; rfl)
        case a28g3 => kernel_rfl
        case b28g3 => kernel_rfl
        case c28g3 => kernel_rfl
        case q28g3 => exact fun _ _ _ h => h
        case w28g3 => rfl
        case s28g3 => assumption
        case h28g3 => (intro W hSw; obtain ⟨a0, a1, a2, a3, a4, a5, a6, a7⟩ := cells8 hSw; go_simp; try with_reducible rfl)
        try simp only [Act.put, List.setIfInBounds_toArray, List.set_cons_zero, List.set_cons_succ]
        refine wpAnyH_take (i := 29) (oi := ?o29g3) (v := ?v29g3) ?e29g3 ?a29g3 ?b29g3 ?c29g3 ?q29g3 (Or.inl ⟨?w29g3, ?h29g3⟩) ?s29g3 ?r29g3
        case e29g3 => (simp only [List.getElem?_toArray, List.getElem?_cons_zero, List.getElem?_cons_succ]; rfl)
        case a29g3 => kernel_rfl
        case b29g3 => kernel_rfl
        case c29g3 => kernel_rfl
        case q29g3 => exact fun _ _ _ h => h
        case w29g3 => rfl
        case s29g3 => assumption
        case h29g3 => (intro W hSw; obtain ⟨a0, a1, a2, a3, a4, a5, a6, a7⟩ := cells8 hSw; go_simp; try with_reducible rfl)
        try simp only [Act.put, List.setIfInBounds_toArray, List.set_cons_zero, List.set_cons_succ]
        refine wpAnyH_take (i := 30) (oi := ?o30g3) (v := ?v30g3) ?e30g3 ?a30g3 ?b30g3 ?c30g3 ?q30g3 (Or.inl ⟨?w30g3, ?h30g3⟩) ?s30g3 ?r30g3
        case e30g3 => (simp only [List.getElem?_toArray, List.getElem?_cons_zero, List.getElem?_cons_succ]; rfl)
        case a30g3 => kernel_rfl
        case b30g3 => kernel_rfl
        case c30g3 => kernel_rfl
        case q30g3 => exact fun _ _ _ h => h
        case w30g3 => rfl
        case s30g3 => assumption
        case h30g3 => (intro W hSw; obtain ⟨a0, a1, a2, a3, a4, a5, a6, a7⟩ := cells8 hSw; go_simp; try with_reducible rfl)
        try simp only [Act.put, List.setIfInBounds_toArray, List.set_cons_zero, List.set_cons_succ]
        refine wpAnyH_take (i := 31) (oi := ?o31g3) (v := ?v31g3) ?e31g3 ?a31g3 ?b31g3 ?c31g3 ?q31g3 (Or.inl ⟨?w31g3, ?h31g3⟩) ?s31g3 ?r31g3
        case e31g3 => (simp only [List.getElem?_toArray, List.getElem?_cons_zero, List.getElem?_cons_succ]; rfl)
        case a31g3 => kernel_rfl
        case b31g3 => kernel_rfl
        case c31g3 => kernel_rfl
        case q31g3 => exact fun _ _ _ h => h
        case w31g3 => rfl
        case s31g3 => assumption
        case h31g3 => (intro W hSw; obtain ⟨a0, a1, a2, a3, a4, a5, a6, a7⟩ := cells8 hSw; go_simp; try with_reducible rfl)
        try simp only [Act.put, List.setIfInBounds_toArray, List.set_cons_zero, List.set_cons_succ]
        try simp only [d3]
        refine wpAnyH_take (i := 32) (oi := ?o32g3) (v := ?v32g3) ?e32g3 ?a32g3 ?b32g3 ?c32g3 ?q32g3 (Or.inl ⟨?w32g3, ?h32g3⟩) ?s32g3 ?r32g3
        case e32g3 => (simp only [List.getElem?_toArray, List.getElem?_cons_zero, List.getElem?_cons_succ]; rfl)
        case a32g3 => kernel_rfl
        case b32g3 => kernel_rfl
        case c32g3 => kernel_rfl
        case q32g3 => exact fun _ _ _ h => h
        case w32g3 => rfl
        case s32g3 => assumption
        case h32g3 => (intro W hSw; obtain ⟨a0, a1, a2, a3, a4, a5, a6, a7⟩ := cells8 hSw; go_simp; try with_reducible rfl)
        try simp only [Act.put, List.setIfInBounds_toArray, List.set_cons_zero, List.set_cons_succ]
        refine wpAnyH_done (by kernel_rfl) ?_ _
        go_wp2
        go_ret
        exact ⟨rfl, HBV1.out⟩
end Go.Proofs.Ytjceofkcahfhmaa.Mv
