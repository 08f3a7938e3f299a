/- The law MvPlays answers yes; no other condition. -/
import Derived.Test.YtjceofkcahfhmaaMvEm
import Derived.Deep.RegionWith
import Derived.Deep.DeepCutAuto
import Derived.Deep.RegionHeld
namespace Go.Proofs.Ytjceofkcahfhmaa.Mv
open Go.RowKit Go.Lib Go.Maps Go.Shelf Go.Sort
open Go.Proofs.Ytjceofkcahfhmaa.Cn
set_option linter.unusedSimpArgs false
set_option linter.unusedVariables false

theorem wpAnyH_imp {P : Program} {md : Region.Mode} {ops : Array Oper} {Q : Exit → Act → World → Prop} {S S' : World → Prop} (h : ∀ W, S' W → S W) : ∀ (fuel : Nat) (listed : Array Bool) (a : Act) (w : World), wpAnyH P md ops Q S' fuel listed a w → wpAnyH P md ops Q S fuel listed a w
  | 0, _, _, _, hh => hh
  | fuel + 1, _, _, _, hh => ⟨hh.1, fun i hi => wpOp_mono (fun a' w' h' => ⟨h _ h'.1, wpAnyH_imp h fuel _ a' w' h'.2⟩) (hh.2 i hi)⟩
/-- what is read of both -/
structure Rds (c r : Nat) (X : Sx) (w : World) (g na cap : Nat) : Prop where
  hna : (na : Int) = X.rev + 1
  c3 : w.cell? ⟨r, 3, none⟩ = some (.int .i64 X.fl)
  c0 : w.cell? ⟨r, 0, none⟩ = some (.slice (some ⟨g, 0, none⟩) na cap)
  it : ∀ k : Nat, (k : Int) ≤ X.rev → ∃ ao cp, w.cell? ⟨g, k, none⟩ = some (.slice ao (X.A.getD k []).length cp) ∧ RdN (.slice ao (X.A.getD k []).length cp) (X.A.getD k []) w
  rv : Calls Try.prog 9 #[.pointer (some ⟨c, 0, none⟩)] w fun e w' => e = .returned (.int .i64 X.rev) ∧ w' = w
  rr : Calls Try.prog 10 #[.pointer (some ⟨r, 0, none⟩)] w fun e w' => e = .returned (.int .i64 X.rev) ∧ w' = w
  fl : Calls Try.prog 11 #[.pointer (some ⟨c, 0, none⟩)] w fun e w' => e = .returned (.int .i64 X.fl) ∧ w' = w
  vs : Calls Try.prog 12 #[.pointer (some ⟨c, 0, none⟩)] w fun e w' => e = .returned (.int .i64 X.vs) ∧ w' = w
  ct : Calls Try.prog 13 #[.pointer (some ⟨r, 0, none⟩)] w fun e w' => e = .returned (.int .i64 X.vs) ∧ w' = w
  ks : Calls Try.prog 14 #[.pointer (some ⟨c, 0, none⟩)] w fun e w' => e = .returned (.int .i64 X.ks) ∧ w' = w
theorem Jn.reads {Z : Nat → Prop} {c r n : Nat} {l0 l9 : Int} {X : Sx} {w : World} (h : Jn Z c r l0 l9 n X w) (hn : n ≤ 40) : ∃ g na cap, Rds c r X w g na cap := by
  obtain ⟨hp, N, mb, od, F, G, hN, hJ⟩ := h
  have hl := hp.len
  have hA := hp.refA hn
  have hc3 := hp.b3
  obtain ⟨vA, vN, vC, cs, h1, ⟨g, cap, rfl, hc, h00, _, hg, hat⟩, _⟩ := hJ.rf.ex
  obtain ⟨c0, c1, c2, c3, c4, c5⟩ := cells6 h1
  have hrr := Rev_r hJ.rf (by omega)
  rw [hp.hA] at hrr
  have hct := Count_c hJ.rf (by omega) (fun d hd => by have := hp.b4 d hd; omega)
  rw [← hp.both, ← hp.hv] at hct
  refine ⟨g, X.A.length, cap, hl, c3, c0, fun k hk => ?_, Rev_c _ _ _ _ _ _ _ _ _ w hJ.is.hs, hrr, Floor_c _ _ _ _ _ _ _ _ _ w hJ.is.hs, Versions_c _ _ _ _ _ _ _ _ _ w hJ.is.hs, hct, Keys_c _ _ _ _ _ _ _ _ _ w hJ.is.hs⟩
  have hkA : k < X.A.length := by omega
  obtain ⟨vi, a0, hr⟩ := hat k hkA
  have e : X.A.getD k [] = X.A[k] := by rw [List.getD_eq_getElem?_getD, List.getElem?_eq_getElem hkA]; rfl
  rw [e]
  obtain ⟨ao, cp, hv, _⟩ := id hr
  subst hv
  exact ⟨ao, cp, a0, hr.up (fun _ _ _ => trivial)⟩
theorem rgD_all : ∀ (L acc : List ItT) (n : Int), ((L.length + acc.length : Nat) : Int) ≤ n → rgD ⟨#[]⟩ ⟨#[]⟩ n L acc = (acc ++ L, false)
  | [], acc, n, _ => by unfold rgD; simp
  | x :: xs, acc, n, h => by
    rw [List.length_cons] at h
    have hin : inB ⟨#[]⟩ ⟨#[]⟩ x.1 = true := by
      unfold inB
      have : pfx (⟨#[]⟩ : ByteArray).data.toList x.1.data.toList = true := pfx_iff.2 ⟨_, rfl⟩
      rw [this]; simp [Lib.toList_data]
    unfold rgD
    rw [hin, if_neg (by decide), if_neg (by omega), rgD_all xs (acc ++ [x]) n (by rw [List.length_append, List.length_cons, List.length_nil]; omega), List.append_assoc]; rfl
theorem rgW_all {n : Nat} {X : Sx} (h : Pln n X) (hn : n ≤ 40) (k : Nat) (h1 : X.fl ≤ k) (h2 : (k : Int) ≤ X.rev) : rgW X.A X.fl ⟨#[]⟩ ⟨#[]⟩ 1000 k = (X.A.getD k [], false, 0) := by
  have r0 : refE (revA X.A) X.fl k = 0 := by unfold refE; rw [h.hA, if_neg (by omega), if_neg (by omega)]
  have hL : (X.A.getD k []).length ≤ 6 * n := by
    rw [List.getD_eq_getElem?_getD]
    cases hg : X.A[k]? with
    | none => simp
    | some L => exact (h.b5 L (List.mem_of_getElem? hg)).1
  unfold rgW
  rw [r0, if_neg (by decide), show (k : Int).toNat = k from rfl, rgD_all _ _ _ (by simp only [List.length_nil]; omega)]; rfl
set_option maxRecDepth 100000 in
set_option maxHeartbeats 8000000 in
theorem plays_law (kl vl : Int) (a : Option Addr) (len cap : Nat) (ts : List OpT) (w : World) (h : IsOps w a len ts) :
    Calls Try.prog 3 #[.int .i64 kl, .int .i64 vl, .slice a len cap] w fun e w' => e = .returned (.bool true) ∧ Below w.heap.size w w' := by
  have HI := Lib.hid h
  have hlen := h.2.1
  simp only [maxLen] at hlen
  clear h
  have HN1 := Lib.hid (New_c kl vl w)
  go_enter Try.func3, Try.ntmps3
  go_upto_region 2 with (first | (go_at_call 6; (with_reducible refine HN1.out.mono ?_); rintro e w1 ⟨rfl, hn1, hb1⟩; have HX1 := Lib.hid hn1; have HB1 := Lib.hid hb1; have HN2 := Lib.hid (NewR_c kl vl w1); clear hn1 hb1) | (go_at_call 7; (with_reducible refine HN2.out.mono ?_); rintro e w2 ⟨rfl, hn2, hn3, hb2⟩; have HX2 := Lib.hid hn2; have HX3 := Lib.hid hn3; have HB2 := Lib.hid hb2; clear hn2 hn3 hb2))
  obtain ⟨c, hc⟩ : ∃ c, c = w.heap.size + 1 := ⟨_, rfl⟩
  rw [← hc] at HX1 ⊢
  have K0 := Lib.hid (new_both kl vl hc HX1.out HB1.out HX2.out HX3.out HB2.out)
  clear HX1 HX2 HX3 HB2 HB1 hc
  generalize w1.heap.size + 1 = r at K0 ⊢
  go_wp2
  go_loopw [24] (fun iv wr => ∃ (j : Nat) (X : Sx), j ≤ len ∧ j ≤ 30 ∧ iv = .int .i64 (j : Int) ∧ Hid (Jn (fun z => z < w.heap.size) c r kl vl j X wr) ∧ Hid (Below w.heap.size w wr)) (fun iv _ => 31 - (intOf iv).toNat)
  case atStart => exact ⟨0, X0, Nat.zero_le _, by omega, rfl, Lib.hid K0.out.1, Lib.hid K0.out.2⟩
  case round =>
    clear K0
    obtain ⟨j, X, hj, hj30, rfl, HJ, HB⟩ := hrel
    have hzw : w.heap.size ≤ wr.heap.size := HB.out.size
    by_cases hlt : j < len
    · have hI := HI.out.go HB.out
      have hjt : j < ts.length := by rw [hI.1]; exact hlt
      obtain ⟨g, off, rfl, hg, hat⟩ := hI.2.2.2 (by omega)
      obtain ⟨p0, p1, p2, p3, p4, p5⟩ := hat j hjt
      have hj0 : (0 : Int) ≤ (j : Int) := by omega
      have hjl : (j : Int) < (len : Int) := by omega
      have hOK := hI.2.2.1 ts[j] (List.getElem_mem _)
      obtain ⟨⟨k, v, cs, rv, ky, pf, nn⟩, ho⟩ : ∃ o : OpT, ts[j] = o := ⟨_, rfl⟩
      rw [ho] at p0 p1 p2 p3 p4 p5 hOK
      dsimp only at p0 p1 p2 p3 p4 p5
      obtain ⟨av, cv, hv, _⟩ := id hOK.1
      dsimp only at hv
      subst hv
      obtain ⟨W1, hW1, hk1, hb1⟩ := new6 wr (.int .i64 k) (.slice av cs.length cv) (.int .i64 rv) (.string ky) (.string pf) (.int .i64 nn) 31
      have HW1 := Lib.hid hW1
      have hgn : g ≠ wr.heap.size := by omega
      obtain ⟨q0, q1, q2, q3, q4, q5⟩ := cells6 hk1
      have HB1 : Hid (Below w.heap.size w W1) := HB.out.trans (hb1.mono hzw)
      have HJ1 : Hid (Jn (fun z => z < w.heap.size) c r kl vl j X W1) := HJ.out.go hb1
      have HO1 := Lib.hid (hOK.go hb1)
      clear hat ho hW1 hk1 hb1 hOK hI hjt
      by_cases h30 : j < 30
      · have h30i : ¬ (30 : Int) ≤ (j : Int) := by omega
        have h30j : (j : Int) < 30 := by omega
        have h30k : ¬ (j : Int) ≥ 30 := by omega
        have hbd : Below W1.heap.size W1 W1.drew := bdr W1
        have HBD : Hid (Below w.heap.size w W1.drew) := HB1.out.trans (hbd.mono HB1.out.size)
        have HST := Lib.hid (step_c (HJ1.out.go hbd) (by omega) (fun z hz => Nat.lt_of_lt_of_le hz HBD.out.size) k _ cs rv ky pf nn (HO1.out.go hbd))
        clear hbd
        go_upto_region 5 with (fail)
        rw [← HW1.out]
        clear p0 p1 p2 p3 p4 p5
        go_upto_region 6 with (fail)
        clear HJ HB
        refine wp_region_held_drew (S := fun _ => True) (by kernel_rfl) trivial (fun hHeld => ?_)
        refine wpAnyH_take (i := 0) (oi := ?o0) (v := ?v0) ?e0 ?a0 ?b0 ?c0 ?q0 (Or.inl ⟨?w0, ?h0⟩) ?s0 ?r0
        case e0 => (simp only [List.getElem?_toArray, List.getElem?_cons_zero, List.getElem?_cons_succ]; rfl)
        case a0 => kernel_rfl
        case b0 => kernel_rfl
        case c0 => kernel_rfl
        case q0 => exact fun _ _ _ h => h
        case w0 => rfl
        case s0 => assumption
        case h0 => (intro W hSw; go_simp; try with_reducible rfl)
        try simp only [Act.put, List.setIfInBounds_toArray, List.set_cons_zero, List.set_cons_succ]
        refine wpAnyH_take (i := 1) (oi := ?o1) (v := ?v1) ?e1 ?a1 ?b1 ?c1 ?q1 (Or.inl ⟨?w1, ?h1⟩) ?s1 ?r1
        case e1 => (simp only [List.getElem?_toArray, List.getElem?_cons_zero, List.getElem?_cons_succ]; rfl)
        case a1 => kernel_rfl
        case b1 => kernel_rfl
        case c1 => kernel_rfl
        case q1 => exact fun _ _ _ h => h
        case w1 => rfl
        case s1 => assumption
        case h1 => (intro W hSw; go_simp; try with_reducible rfl)
        try simp only [Act.put, List.setIfInBounds_toArray, List.set_cons_zero, List.set_cons_succ]
        refine wpAnyH_ready (rs := [2]) (by kernel_rfl) (by simp) (AllReadyH.cons (o := ?o2) ?e2 (fun K hK => ?k2) AllReadyH.nil)
        case e2 => (simp only [List.getElem?_toArray, List.getElem?_cons_zero, List.getElem?_cons_succ]; rfl)
        go_simp
        refine hK.out _ _ trivial (fun hHeld => ?_)
        clear hK K
        try simp only [Act.put, List.setIfInBounds_toArray, List.set_cons_zero, List.set_cons_succ]
        refine wpAnyH_ready (rs := [3]) (by kernel_rfl) (by simp) (AllReadyH.cons (o := ?o3) ?e3 (fun K hK => ?k3) AllReadyH.nil)
        case e3 => (simp only [List.getElem?_toArray, List.getElem?_cons_zero, List.getElem?_cons_succ]; rfl)
        go_simp
        (with_reducible refine HST.out.mono ?_)
        rintro e w5 ⟨rfl, X', hj5, hg5, hf5⟩
        have HJ5 := Lib.hid hj5
        have HF5 := Lib.hid hf5
        have hP5 : Pln (j + 1) X' := hj5.1
        obtain ⟨g5, na, cap5, hrd⟩ := hj5.reads (by omega)
        have HRD := Lib.hid hrd
        clear hj5 hg5 hf5 hrd
        go_wp2_with fail
        refine hK.out _ _ trivial (fun hHeld => ?_)
        clear hK K
        try simp only [Act.put, List.setIfInBounds_toArray, List.set_cons_zero, List.set_cons_succ]
        obtain ⟨kr, hkr⟩ : ∃ kr : Nat, (kr : Int) = X'.rev := ⟨X'.rev.toNat, by have := hP5.h0; have := hP5.h1; omega⟩
        obtain ⟨a5, c5, hat5, _⟩ := HRD.out.it kr (by omega)
        have hk0 : (0 : Int) ≤ (kr : Int) := by omega
        have hk1 : (kr : Int) < (na : Int) := by have := HRD.out.hna; omega
        have hks : X'.ks = ((X'.A.getD kr []).length : Nat) := by rw [hP5.hk, lastA_get (by have := hP5.len; omega)]
        obtain ⟨m5, hm5⟩ : ∃ m5 : Nat, m5 = (X'.A.getD kr []).length := ⟨_, rfl⟩
        rw [← hm5] at hks hat5
        have HRV := Lib.hid HRD.out.rv
        have HRR := Lib.hid HRD.out.rr
        have HFL := Lib.hid HRD.out.fl
        have HVS := Lib.hid HRD.out.vs
        have HCT := Lib.hid HRD.out.ct
        have HKS := Lib.hid HRD.out.ks
        have hc3 := HRD.out.c3
        have hc0 := HRD.out.c0
        rw [← hkr] at HRV HRR
        rw [hks] at HKS
        obtain ⟨fl, hfl⟩ : ∃ fl, fl = X'.fl := ⟨_, rfl⟩
        obtain ⟨vs, hvs⟩ : ∃ vs, vs = X'.vs := ⟨_, rfl⟩
        rw [← hfl] at HFL hc3
        rw [← hvs] at HVS HCT
        clear hkr hm5 hks hfl hvs hP5 HRD HST
        refine wpAnyH_imp (S' := (fun V => V.cell? ⟨r, 3, none⟩ = some (.int .i64 fl) ∧ V.cell? ⟨r, 0, none⟩ = some (.slice (some ⟨g5, 0, none⟩) na cap5) ∧ V.cell? ⟨g5, kr, none⟩ = some (.slice a5 m5 c5))) (fun W h => trivial) _ _ _ _ ?_
        have hH : (fun V => V.cell? ⟨r, 3, none⟩ = some (.int .i64 fl) ∧ V.cell? ⟨r, 0, none⟩ = some (.slice (some ⟨g5, 0, none⟩) na cap5) ∧ V.cell? ⟨g5, kr, none⟩ = some (.slice a5 m5 c5)) w5 := ⟨hc3, hc0, hat5⟩
        clear hHeld hc3 hc0 hat5
        refine wpAnyH_take (i := 4) (oi := ?o4) (v := ?v4) ?e4 ?a4 ?b4 ?c4 ?q4 (Or.inl ⟨?w4, ?h4⟩) ?s4 ?r4
        case e4 => (simp only [List.getElem?_toArray, List.getElem?_cons_zero, List.getElem?_cons_succ]; rfl)
        case a4 => kernel_rfl
        case b4 => kernel_rfl
        case c4 => kernel_rfl
        case q4 => exact fun _ _ _ h => h
        case w4 => rfl
        case s4 => assumption
        case h4 => (intro W hSw; have hS0 := hSw.1; have hS1 := hSw.2.1; have hS2 := hSw.2.2; go_simp; try with_reducible rfl)
        try simp only [Act.put, List.setIfInBounds_toArray, List.set_cons_zero, List.set_cons_succ]
        refine wpAnyH_take (i := 5) (oi := ?o5) (v := ?v5) ?e5 ?a5 ?b5 ?c5 ?q5 (Or.inl ⟨?w5, ?h5⟩) ?s5 ?r5
        case e5 => (simp only [List.getElem?_toArray, List.getElem?_cons_zero, List.getElem?_cons_succ]; rfl)
        case a5 => kernel_rfl
        case b5 => kernel_rfl
        case c5 => kernel_rfl
        case q5 => exact fun _ _ _ h => h
        case w5 => rfl
        case s5 => assumption
        case h5 => (intro W hSw; have hS0 := hSw.1; have hS1 := hSw.2.1; have hS2 := hSw.2.2; go_simp; try with_reducible rfl)
        try simp only [Act.put, List.setIfInBounds_toArray, List.set_cons_zero, List.set_cons_succ]
        refine wpAnyH_take (i := 6) (oi := ?o6) (v := ?v6) ?e6 ?a6 ?b6 ?c6 ?q6 (Or.inl ⟨?w6, ?h6⟩) ?s6 ?r6
        case e6 => (simp only [List.getElem?_toArray, List.getElem?_cons_zero, List.getElem?_cons_succ]; rfl)
        case a6 => kernel_rfl
        case b6 => kernel_rfl
        case c6 => kernel_rfl
        case q6 => exact fun _ _ _ h => h
        case w6 => rfl
        case s6 => assumption
        case h6 => (intro W hSw; have hS0 := hSw.1; have hS1 := hSw.2.1; have hS2 := hSw.2.2; go_simp; try with_reducible rfl)
        try simp only [Act.put, List.setIfInBounds_toArray, List.set_cons_zero, List.set_cons_succ]
        refine wpAnyH_take (i := 8) (oi := ?o8) (v := ?v8) ?e8 ?a8 ?b8 ?c8 ?q8 (Or.inl ⟨?w8, ?h8⟩) ?s8 ?r8
        case e8 => (simp only [List.getElem?_toArray, List.getElem?_cons_zero, List.getElem?_cons_succ]; rfl)
        case a8 => kernel_rfl
        case b8 => kernel_rfl
        case c8 => kernel_rfl
        case q8 => exact fun _ _ _ h => h
        case w8 => rfl
        case s8 => assumption
        case h8 => (intro W hSw; have hS0 := hSw.1; have hS1 := hSw.2.1; have hS2 := hSw.2.2; go_simp; try with_reducible rfl)
        try simp only [Act.put, List.setIfInBounds_toArray, List.set_cons_zero, List.set_cons_succ]
        refine wpAnyH_ready (rs := [7]) (by kernel_rfl) (by simp) (AllReadyH.cons (o := ?o7) ?e7 (fun K hK => ?k7) AllReadyH.nil)
        case e7 => (simp only [List.getElem?_toArray, List.getElem?_cons_zero, List.getElem?_cons_succ]; rfl)
        go_simp
        (with_reducible refine (HRV.out).mono ?_)
        rintro e w8 ⟨rfl, hw8⟩
        rw [hw8]
        clear hw8 w8
        go_wp2_with fail
        refine hK.out _ _ hH (fun _ => ?_)
        clear hK K
        try simp only [Act.put, List.setIfInBounds_toArray, List.set_cons_zero, List.set_cons_succ]
        refine wpAnyH_ready (rs := [9]) (by kernel_rfl) (by simp) (AllReadyH.cons (o := ?o9) ?e9 (fun K hK => ?k9) AllReadyH.nil)
        case e9 => (simp only [List.getElem?_toArray, List.getElem?_cons_zero, List.getElem?_cons_succ]; rfl)
        go_simp
        (with_reducible refine (HRR.out).mono ?_)
        rintro e w8 ⟨rfl, hw8⟩
        rw [hw8]
        clear hw8 w8
        go_wp2_with fail
        refine hK.out _ _ hH (fun _ => ?_)
        clear hK K
        try simp only [Act.put, List.setIfInBounds_toArray, List.set_cons_zero, List.set_cons_succ]
        refine wpAnyH_take (i := 10) (oi := ?o10) (v := ?v10) ?e10 ?a10 ?b10 ?c10 ?q10 (Or.inl ⟨?w10, ?h10⟩) ?s10 ?r10
        case e10 => (simp only [List.getElem?_toArray, List.getElem?_cons_zero, List.getElem?_cons_succ]; rfl)
        case a10 => kernel_rfl
        case b10 => kernel_rfl
        case c10 => kernel_rfl
        case q10 => exact fun _ _ _ h => h
        case w10 => rfl
        case s10 => assumption
        case h10 => (intro W hSw; have hS0 := hSw.1; have hS1 := hSw.2.1; have hS2 := hSw.2.2; go_simp; try with_reducible rfl)
        try simp only [Act.put, List.setIfInBounds_toArray, List.set_cons_zero, List.set_cons_succ]
        refine wpAnyH_take (i := 11) (oi := ?o11) (v := ?v11) ?e11 ?a11 ?b11 ?c11 ?q11 (Or.inl ⟨?w11, ?h11⟩) ?s11 ?r11
        case e11 => (simp only [List.getElem?_toArray, List.getElem?_cons_zero, List.getElem?_cons_succ]; rfl)
        case a11 => kernel_rfl
        case b11 => kernel_rfl
        case c11 => kernel_rfl
        case q11 => exact fun _ _ _ h => h
        case w11 => rfl
        case s11 => assumption
        case h11 => (intro W hSw; have hS0 := hSw.1; have hS1 := hSw.2.1; have hS2 := hSw.2.2; go_simp; try with_reducible rfl)
        try simp only [Act.put, List.setIfInBounds_toArray, List.set_cons_zero, List.set_cons_succ]
        refine wpAnyH_take (i := 12) (oi := ?o12) (v := ?v12) ?e12 ?a12 ?b12 ?c12 ?q12 (Or.inl ⟨?w12, ?h12⟩) ?s12 ?r12
        case e12 => (simp only [List.getElem?_toArray, List.getElem?_cons_zero, List.getElem?_cons_succ]; rfl)
        case a12 => kernel_rfl
        case b12 => kernel_rfl
        case c12 => kernel_rfl
        case q12 => exact fun _ _ _ h => h
        case w12 => rfl
        case s12 => assumption
        case h12 => (intro W hSw; have hS0 := hSw.1; have hS1 := hSw.2.1; have hS2 := hSw.2.2; go_simp; try with_reducible rfl)
        try simp only [Act.put, List.setIfInBounds_toArray, List.set_cons_zero, List.set_cons_succ]
        refine wpAnyH_take (i := 13) (oi := ?o13) (v := ?v13) ?e13 ?a13 ?b13 ?c13 ?q13 (Or.inl ⟨?w13, ?h13⟩) ?s13 ?r13
        case e13 => (simp only [List.getElem?_toArray, List.getElem?_cons_zero, List.getElem?_cons_succ]; rfl)
        case a13 => kernel_rfl
        case b13 => kernel_rfl
        case c13 => kernel_rfl
        case q13 => exact fun _ _ _ h => h
        case w13 => rfl
        case s13 => assumption
        case h13 => (intro W hSw; have hS0 := hSw.1; have hS1 := hSw.2.1; have hS2 := hSw.2.2; go_simp; try with_reducible rfl)
        try simp only [Act.put, List.setIfInBounds_toArray, List.set_cons_zero, List.set_cons_succ]
        refine wpAnyH_take (i := 15) (oi := ?o15) (v := ?v15) ?e15 ?a15 ?b15 ?c15 ?q15 (Or.inl ⟨?w15, ?h15⟩) ?s15 ?r15
        case e15 => (simp only [List.getElem?_toArray, List.getElem?_cons_zero, List.getElem?_cons_succ]; rfl)
        case a15 => kernel_rfl
        case b15 => kernel_rfl
        case c15 => kernel_rfl
        case q15 => exact fun _ _ _ h => h
        case w15 => rfl
        case s15 => assumption
        case h15 => (intro W hSw; have hS0 := hSw.1; have hS1 := hSw.2.1; have hS2 := hSw.2.2; go_simp; try with_reducible rfl)
        try simp only [Act.put, List.setIfInBounds_toArray, List.set_cons_zero, List.set_cons_succ]
        refine wpAnyH_take (i := 16) (oi := ?o16) (v := ?v16) ?e16 ?a16 ?b16 ?c16 ?q16 (Or.inl ⟨?w16, ?h16⟩) ?s16 ?r16
        case e16 => (simp only [List.getElem?_toArray, List.getElem?_cons_zero, List.getElem?_cons_succ]; rfl)
        case a16 => kernel_rfl
        case b16 => kernel_rfl
        case c16 => kernel_rfl
        case q16 => exact fun _ _ _ h => h
        case w16 => rfl
        case s16 => assumption
        case h16 => (intro W hSw; have hS0 := hSw.1; have hS1 := hSw.2.1; have hS2 := hSw.2.2; go_simp; try with_reducible rfl)
        try simp only [Act.put, List.setIfInBounds_toArray, List.set_cons_zero, List.set_cons_succ]
        refine wpAnyH_take (i := 17) (oi := ?o17) (v := ?v17) ?e17 ?a17 ?b17 ?c17 ?q17 (Or.inl ⟨?w17, ?h17⟩) ?s17 ?r17
        case e17 => (simp only [List.getElem?_toArray, List.getElem?_cons_zero, List.getElem?_cons_succ]; rfl)
        case a17 => kernel_rfl
        case b17 => kernel_rfl
        case c17 => kernel_rfl
        case q17 => exact fun _ _ _ h => h
        case w17 => rfl
        case s17 => assumption
        case h17 => (intro W hSw; have hS0 := hSw.1; have hS1 := hSw.2.1; have hS2 := hSw.2.2; go_simp; try with_reducible rfl)
        try simp only [Act.put, List.setIfInBounds_toArray, List.set_cons_zero, List.set_cons_succ]
        refine wpAnyH_take (i := 18) (oi := ?o18) (v := ?v18) ?e18 ?a18 ?b18 ?c18 ?q18 (Or.inl ⟨?w18, ?h18⟩) ?s18 ?r18
        case e18 => (simp only [List.getElem?_toArray, List.getElem?_cons_zero, List.getElem?_cons_succ]; rfl)
        case a18 => kernel_rfl
        case b18 => kernel_rfl
        case c18 => kernel_rfl
        case q18 => exact fun _ _ _ h => h
        case w18 => rfl
        case s18 => assumption
        case h18 => (intro W hSw; have hS0 := hSw.1; have hS1 := hSw.2.1; have hS2 := hSw.2.2; go_simp; try with_reducible rfl)
        try simp only [Act.put, List.setIfInBounds_toArray, List.set_cons_zero, List.set_cons_succ]
        refine wpAnyH_ready (rs := [14]) (by kernel_rfl) (by simp) (AllReadyH.cons (o := ?o14) ?e14 (fun K hK => ?k14) AllReadyH.nil)
        case e14 => (simp only [List.getElem?_toArray, List.getElem?_cons_zero, List.getElem?_cons_succ]; rfl)
        go_simp
        (with_reducible refine (HFL.out).mono ?_)
        rintro e w8 ⟨rfl, hw8⟩
        rw [hw8]
        clear hw8 w8
        go_wp2_with fail
        refine hK.out _ _ hH (fun _ => ?_)
        clear hK K
        try simp only [Act.put, List.setIfInBounds_toArray, List.set_cons_zero, List.set_cons_succ]
        refine wpAnyH_take (i := 19) (oi := ?o19) (v := ?v19) ?e19 ?a19 ?b19 ?c19 ?q19 (Or.inl ⟨?w19, ?h19⟩) ?s19 ?r19
        case e19 => (simp only [List.getElem?_toArray, List.getElem?_cons_zero, List.getElem?_cons_succ]; rfl)
        case a19 => kernel_rfl
        case b19 => kernel_rfl
        case c19 => kernel_rfl
        case q19 => exact fun _ _ _ h => h
        case w19 => rfl
        case s19 => assumption
        case h19 => (intro W hSw; have hS0 := hSw.1; have hS1 := hSw.2.1; have hS2 := hSw.2.2; go_simp; try with_reducible rfl)
        try simp only [Act.put, List.setIfInBounds_toArray, List.set_cons_zero, List.set_cons_succ]
        refine wpAnyH_take (i := 20) (oi := ?o20) (v := ?v20) ?e20 ?a20 ?b20 ?c20 ?q20 (Or.inl ⟨?w20, ?h20⟩) ?s20 ?r20
        case e20 => (simp only [List.getElem?_toArray, List.getElem?_cons_zero, List.getElem?_cons_succ]; rfl)
        case a20 => kernel_rfl
        case b20 => kernel_rfl
        case c20 => kernel_rfl
        case q20 => exact fun _ _ _ h => h
        case w20 => rfl
        case s20 => assumption
        case h20 => (intro W hSw; have hS0 := hSw.1; have hS1 := hSw.2.1; have hS2 := hSw.2.2; go_simp; try with_reducible rfl)
        try simp only [Act.put, List.setIfInBounds_toArray, List.set_cons_zero, List.set_cons_succ]
        refine wpAnyH_take (i := 21) (oi := ?o21) (v := ?v21) ?e21 ?a21 ?b21 ?c21 ?q21 (Or.inl ⟨?w21, ?h21⟩) ?s21 ?r21
        case e21 => (simp only [List.getElem?_toArray, List.getElem?_cons_zero, List.getElem?_cons_succ]; rfl)
        case a21 => kernel_rfl
        case b21 => kernel_rfl
        case c21 => kernel_rfl
        case q21 => exact fun _ _ _ h => h
        case w21 => rfl
        case s21 => assumption
        case h21 => (intro W hSw; have hS0 := hSw.1; have hS1 := hSw.2.1; have hS2 := hSw.2.2; go_simp; try with_reducible rfl)
        try simp only [Act.put, List.setIfInBounds_toArray, List.set_cons_zero, List.set_cons_succ]
        refine wpAnyH_take (i := 22) (oi := ?o22) (v := ?v22) ?e22 ?a22 ?b22 ?c22 ?q22 (Or.inl ⟨?w22, ?h22⟩) ?s22 ?r22
        case e22 => (simp only [List.getElem?_toArray, List.getElem?_cons_zero, List.getElem?_cons_succ]; rfl)
        case a22 => kernel_rfl
        case b22 => kernel_rfl
        case c22 => kernel_rfl
        case q22 => exact fun _ _ _ h => h
        case w22 => rfl
        case s22 => assumption
        case h22 => (intro W hSw; have hS0 := hSw.1; have hS1 := hSw.2.1; have hS2 := hSw.2.2; go_simp; try with_reducible rfl)
        try simp only [Act.put, List.setIfInBounds_toArray, List.set_cons_zero, List.set_cons_succ]
        refine wpAnyH_take (i := 24) (oi := ?o24) (v := ?v24) ?e24 ?a24 ?b24 ?c24 ?q24 (Or.inl ⟨?w24, ?h24⟩) ?s24 ?r24
        case e24 => (simp only [List.getElem?_toArray, List.getElem?_cons_zero, List.getElem?_cons_succ]; rfl)
        case a24 => kernel_rfl
        case b24 => kernel_rfl
        case c24 => kernel_rfl
        case q24 => exact fun _ _ _ h => h
        case w24 => rfl
        case s24 => assumption
        case h24 => (intro W hSw; have hS0 := hSw.1; have hS1 := hSw.2.1; have hS2 := hSw.2.2; go_simp; try with_reducible rfl)
        try simp only [Act.put, List.setIfInBounds_toArray, List.set_cons_zero, List.set_cons_succ]
        refine wpAnyH_ready (rs := [23]) (by kernel_rfl) (by simp) (AllReadyH.cons (o := ?o23) ?e23 (fun K hK => ?k23) AllReadyH.nil)
        case e23 => (simp only [List.getElem?_toArray, List.getElem?_cons_zero, List.getElem?_cons_succ]; rfl)
        go_simp
        (with_reducible refine (HVS.out).mono ?_)
        rintro e w8 ⟨rfl, hw8⟩
        rw [hw8]
        clear hw8 w8
        go_wp2_with fail
        refine hK.out _ _ hH (fun _ => ?_)
        clear hK K
        try simp only [Act.put, List.setIfInBounds_toArray, List.set_cons_zero, List.set_cons_succ]
        refine wpAnyH_ready (rs := [25]) (by kernel_rfl) (by simp) (AllReadyH.cons (o := ?o25) ?e25 (fun K hK => ?k25) AllReadyH.nil)
        case e25 => (simp only [List.getElem?_toArray, List.getElem?_cons_zero, List.getElem?_cons_succ]; rfl)
        go_simp
        (with_reducible refine (HCT.out).mono ?_)
        rintro e w8 ⟨rfl, hw8⟩
        rw [hw8]
        clear hw8 w8
        go_wp2_with fail
        refine hK.out _ _ hH (fun _ => ?_)
        clear hK K
        try simp only [Act.put, List.setIfInBounds_toArray, List.set_cons_zero, List.set_cons_succ]
        refine wpAnyH_take (i := 26) (oi := ?o26) (v := ?v26) ?e26 ?a26 ?b26 ?c26 ?q26 (Or.inl ⟨?w26, ?h26⟩) ?s26 ?r26
        case e26 => (simp only [List.getElem?_toArray, List.getElem?_cons_zero, List.getElem?_cons_succ]; rfl)
        case a26 => kernel_rfl
        case b26 => kernel_rfl
        case c26 => kernel_rfl
        case q26 => exact fun _ _ _ h => h
        case w26 => rfl
        case s26 => assumption
        case h26 => (intro W hSw; have hS0 := hSw.1; have hS1 := hSw.2.1; have hS2 := hSw.2.2; go_simp; try with_reducible rfl)
        try simp only [Act.put, List.setIfInBounds_toArray, List.set_cons_zero, List.set_cons_succ]
        refine wpAnyH_take (i := 27) (oi := ?o27) (v := ?v27) ?e27 ?a27 ?b27 ?c27 ?q27 (Or.inl ⟨?w27, ?h27⟩) ?s27 ?r27
        case e27 => (simp only [List.getElem?_toArray, List.getElem?_cons_zero, List.getElem?_cons_succ]; rfl)
        case a27 => kernel_rfl
        case b27 => kernel_rfl
        case c27 => kernel_rfl
        case q27 => exact fun _ _ _ h => h
        case w27 => rfl
        case s27 => assumption
        case h27 => (intro W hSw; have hS0 := hSw.1; have hS1 := hSw.2.1; have hS2 := hSw.2.2; go_simp; try with_reducible rfl)
        try simp only [Act.put, List.setIfInBounds_toArray, List.set_cons_zero, List.set_cons_succ]
        refine wpAnyH_take (i := 28) (oi := ?o28) (v := ?v28) ?e28 ?a28 ?b28 ?c28 ?q28 (Or.inl ⟨?w28, ?h28⟩) ?s28 ?r28
        case e28 => (simp only [List.getElem?_toArray, List.getElem?_cons_zero, List.getElem?_cons_succ]; rfl)
        case a28 => kernel_rfl
        case b28 => kernel_rfl
        case c28 => kernel_rfl
        case q28 => exact fun _ _ _ h => h
        case w28 => rfl
        case s28 => assumption
        case h28 => (intro W hSw; have hS0 := hSw.1; have hS1 := hSw.2.1; have hS2 := hSw.2.2; go_simp; try with_reducible rfl)
        try simp only [Act.put, List.setIfInBounds_toArray, List.set_cons_zero, List.set_cons_succ]
        refine wpAnyH_take (i := 29) (oi := ?o29) (v := ?v29) ?e29 ?a29 ?b29 ?c29 ?q29 (Or.inl ⟨?w29, ?h29⟩) ?s29 ?r29
        case e29 => (simp only [List.getElem?_toArray, List.getElem?_cons_zero, List.getElem?_cons_succ]; rfl)
        case a29 => kernel_rfl
        case b29 => kernel_rfl
        case c29 => kernel_rfl
        case q29 => exact fun _ _ _ h => h
        case w29 => rfl
        case s29 => assumption
        case h29 => (intro W hSw; have hS0 := hSw.1; have hS1 := hSw.2.1; have hS2 := hSw.2.2; go_simp; try with_reducible rfl)
        try simp only [Act.put, List.setIfInBounds_toArray, List.set_cons_zero, List.set_cons_succ]
        refine wpAnyH_take (i := 31) (oi := ?o31) (v := ?v31) ?e31 ?a31 ?b31 ?c31 ?q31 (Or.inl ⟨?w31, ?h31⟩) ?s31 ?r31
        case e31 => (simp only [List.getElem?_toArray, List.getElem?_cons_zero, List.getElem?_cons_succ]; rfl)
        case a31 => kernel_rfl
        case b31 => kernel_rfl
        case c31 => kernel_rfl
        case q31 => exact fun _ _ _ h => h
        case w31 => rfl
        case s31 => assumption
        case h31 => (intro W hSw; have hS0 := hSw.1; have hS1 := hSw.2.1; have hS2 := hSw.2.2; go_simp; try with_reducible rfl)
        try simp only [Act.put, List.setIfInBounds_toArray, List.set_cons_zero, List.set_cons_succ]
        refine wpAnyH_take (i := 32) (oi := ?o32) (v := ?v32) ?e32 ?a32 ?b32 ?c32 ?q32 (Or.inl ⟨?w32, ?h32⟩) ?s32 ?r32
        case e32 => (simp only [List.getElem?_toArray, List.getElem?_cons_zero, List.getElem?_cons_succ]; rfl)
        case a32 => kernel_rfl
        case b32 => kernel_rfl
        case c32 => kernel_rfl
        case q32 => exact fun _ _ _ h => h
        case w32 => rfl
        case s32 => assumption
        case h32 => (intro W hSw; have hS0 := hSw.1; have hS1 := hSw.2.1; have hS2 := hSw.2.2; go_simp; try with_reducible rfl)
        try simp only [Act.put, List.setIfInBounds_toArray, List.set_cons_zero, List.set_cons_succ]
        refine wpAnyH_take (i := 33) (oi := ?o33) (v := ?v33) ?e33 ?a33 ?b33 ?c33 ?q33 (Or.inl ⟨?w33, ?h33⟩) ?s33 ?r33
        case e33 => (simp only [List.getElem?_toArray, List.getElem?_cons_zero, List.getElem?_cons_succ]; rfl)
        case a33 => kernel_rfl
        case b33 => kernel_rfl
        case c33 => kernel_rfl
        case q33 => exact fun _ _ _ h => h
        case w33 => rfl
        case s33 => assumption
        case h33 => (intro W hSw; have hS0 := hSw.1; have hS1 := hSw.2.1; have hS2 := hSw.2.2; go_simp; try with_reducible rfl)
        try simp only [Act.put, List.setIfInBounds_toArray, List.set_cons_zero, List.set_cons_succ]
        refine wpAnyH_take (i := 34) (oi := ?o34) (v := ?v34) ?e34 ?a34 ?b34 ?c34 ?q34 (Or.inl ⟨?w34, ?h34⟩) ?s34 ?r34
        case e34 => (simp only [List.getElem?_toArray, List.getElem?_cons_zero, List.getElem?_cons_succ]; rfl)
        case a34 => kernel_rfl
        case b34 => kernel_rfl
        case c34 => kernel_rfl
        case q34 => exact fun _ _ _ h => h
        case w34 => rfl
        case s34 => assumption
        case h34 => (intro W hSw; have hS0 := hSw.1; have hS1 := hSw.2.1; have hS2 := hSw.2.2; go_simp; try with_reducible rfl)
        try simp only [Act.put, List.setIfInBounds_toArray, List.set_cons_zero, List.set_cons_succ]
        refine wpAnyH_take (i := 35) (oi := ?o35) (v := ?v35) ?e35 ?a35 ?b35 ?c35 ?q35 (Or.inl ⟨?w35, ?h35⟩) ?s35 ?r35
        case e35 => (simp only [List.getElem?_toArray, List.getElem?_cons_zero, List.getElem?_cons_succ]; rfl)
        case a35 => kernel_rfl
        case b35 => kernel_rfl
        case c35 => kernel_rfl
        case q35 => exact fun _ _ _ h => h
        case w35 => rfl
        case s35 => assumption
        case h35 => (intro W hSw; have hS0 := hSw.1; have hS1 := hSw.2.1; have hS2 := hSw.2.2; go_simp; try with_reducible rfl)
        try simp only [Act.put, List.setIfInBounds_toArray, List.set_cons_zero, List.set_cons_succ]
        refine wpAnyH_ready (rs := [30]) (by kernel_rfl) (by simp) (AllReadyH.cons (o := ?o30) ?e30 (fun K hK => ?k30) AllReadyH.nil)
        case e30 => (simp only [List.getElem?_toArray, List.getElem?_cons_zero, List.getElem?_cons_succ]; rfl)
        go_simp
        (with_reducible refine (HKS.out).mono ?_)
        rintro e w8 ⟨rfl, hw8⟩
        rw [hw8]
        clear hw8 w8
        go_wp2_with fail
        refine hK.out _ _ hH (fun _ => ?_)
        clear hK K
        try simp only [Act.put, List.setIfInBounds_toArray, List.set_cons_zero, List.set_cons_succ]
        refine wpAnyH_ready (rs := [36]) (by kernel_rfl) (by simp) (AllReadyH.cons (o := ?o36) ?e36 (fun K hK => ?k36) AllReadyH.nil)
        case e36 => (simp only [List.getElem?_toArray, List.getElem?_cons_zero, List.getElem?_cons_succ]; rfl)
        go_simp
        (with_reducible refine (HRR.out).mono ?_)
        rintro e w8 ⟨rfl, hw8⟩
        rw [hw8]
        clear hw8 w8
        go_wp2_with fail
        refine hK.out _ _ hH (fun _ => ?_)
        clear hK K
        try simp only [Act.put, List.setIfInBounds_toArray, List.set_cons_zero, List.set_cons_succ]
        refine wpAnyH_take (i := 37) (oi := ?o37) (v := ?v37) ?e37 ?a37 ?b37 ?c37 ?q37 (Or.inl ⟨?w37, ?h37⟩) ?s37 ?r37
        case e37 => (simp only [List.getElem?_toArray, List.getElem?_cons_zero, List.getElem?_cons_succ]; rfl)
        case a37 => kernel_rfl
        case b37 => kernel_rfl
        case c37 => kernel_rfl
        case q37 => exact fun _ _ _ h => h
        case w37 => rfl
        case s37 => assumption
        case h37 => (intro W hSw; have hS0 := hSw.1; have hS1 := hSw.2.1; have hS2 := hSw.2.2; go_simp; try with_reducible rfl)
        try simp only [Act.put, List.setIfInBounds_toArray, List.set_cons_zero, List.set_cons_succ]
        refine wpAnyH_take (i := 38) (oi := ?o38) (v := ?v38) ?e38 ?a38 ?b38 ?c38 ?q38 (Or.inl ⟨?w38, ?h38⟩) ?s38 ?r38
        case e38 => (simp only [List.getElem?_toArray, List.getElem?_cons_zero, List.getElem?_cons_succ]; rfl)
        case a38 => kernel_rfl
        case b38 => kernel_rfl
        case c38 => kernel_rfl
        case q38 => exact fun _ _ _ h => h
        case w38 => rfl
        case s38 => assumption
        case h38 => (intro W hSw; have hS0 := hSw.1; have hS1 := hSw.2.1; have hS2 := hSw.2.2; go_simp; try with_reducible rfl)
        try simp only [Act.put, List.setIfInBounds_toArray, List.set_cons_zero, List.set_cons_succ]
        refine wpAnyH_take (i := 39) (oi := ?o39) (v := ?v39) ?e39 ?a39 ?b39 ?c39 ?q39 (Or.inl ⟨?w39, ?h39⟩) ?s39 ?r39
        case e39 => (simp only [List.getElem?_toArray, List.getElem?_cons_zero, List.getElem?_cons_succ]; rfl)
        case a39 => kernel_rfl
        case b39 => kernel_rfl
        case c39 => kernel_rfl
        case q39 => exact fun _ _ _ h => h
        case w39 => rfl
        case s39 => assumption
        case h39 => (intro W hSw; have hS0 := hSw.1; have hS1 := hSw.2.1; have hS2 := hSw.2.2; go_simp; try with_reducible rfl)
        try simp only [Act.put, List.setIfInBounds_toArray, List.set_cons_zero, List.set_cons_succ]
        refine wpAnyH_take (i := 40) (oi := ?o40) (v := ?v40) ?e40 ?a40 ?b40 ?c40 ?q40 (Or.inl ⟨?w40, ?h40⟩) ?s40 ?r40
        case e40 => (simp only [List.getElem?_toArray, List.getElem?_cons_zero, List.getElem?_cons_succ]; rfl)
        case a40 => kernel_rfl
        case b40 => kernel_rfl
        case c40 => kernel_rfl
        case q40 => exact fun _ _ _ h => h
        case w40 => rfl
        case s40 => assumption
        case h40 => (intro W hSw; have hS0 := hSw.1; have hS1 := hSw.2.1; have hS2 := hSw.2.2; go_simp; try with_reducible rfl)
        try simp only [Act.put, List.setIfInBounds_toArray, List.set_cons_zero, List.set_cons_succ]
        refine wpAnyH_take (i := 41) (oi := ?o41) (v := ?v41) ?e41 ?a41 ?b41 ?c41 ?q41 (Or.inl ⟨?w41, ?h41⟩) ?s41 ?r41
        case e41 => (simp only [List.getElem?_toArray, List.getElem?_cons_zero, List.getElem?_cons_succ]; rfl)
        case a41 => kernel_rfl
        case b41 => kernel_rfl
        case c41 => kernel_rfl
        case q41 => exact fun _ _ _ h => h
        case w41 => rfl
        case s41 => assumption
        case h41 => (intro W hSw; have hS0 := hSw.1; have hS1 := hSw.2.1; have hS2 := hSw.2.2; go_simp; try with_reducible rfl)
        try simp only [Act.put, List.setIfInBounds_toArray, List.set_cons_zero, List.set_cons_succ]
        refine wpAnyH_done (by kernel_rfl) ?_ _
        go_wp2_with fail
        go_roundw
        case rel => exact ⟨j + 1, X', by omega, by omega, by go_num, HJ5, Lib.hid (HBD.out.trans (fr_below HF5.out (fun z h => h) HBD.out.size))⟩
        case measure => simp [intOf]; omega
      · have h30i : (30 : Int) ≤ (j : Int) := by omega
        have h30j : ¬ (j : Int) < 30 := by omega
        have h30k : (j : Int) ≥ 30 := by omega
        go_upto_region 5 with (fail)
        rw [← HW1.out]
        clear p0 p1 p2 p3 p4 p5 q0 q1 q2 q3 q4 q5
        have hjl2 := hjl
        clear HJ HB
        have HJ := HJ1
        have HB := HB1
        clear HJ1 HB1
        go_upto_region 9 with (fail)
        have HJK := Lib.hid HJ.out
        obtain ⟨g9, na9, cap9, hrd9⟩ := HJ.out.reads (by omega)
        have c39 := hrd9.c3
        have hP := HJ.out.1
        obtain ⟨kf, hkf⟩ : ∃ kf : Nat, (kf : Int) = X.fl := ⟨X.fl.toNat, by have := hP.h0; omega⟩
        have hkf1 : (kf : Int) ≤ X.rev := by have := hP.h1; omega
        rw [← hkf] at c39
        have HKF := Lib.hid hkf
        have HP := Lib.hid hP
        have hrb := hP.b1
        have HAW := Lib.hid awake_c
        clear hrd9 HJ hP hkf
        go_upto_region 10 with (fail)
        clear c39
        go_loopw [11] (fun iv wr => ∃ (q : Nat), (kf : Int) ≤ q ∧ (q : Int) ≤ X.rev + 1 ∧ iv = .int .i64 (q : Int) ∧ Hid (Jn (fun z => z < w.heap.size) c r kl vl j X wr) ∧ Hid (Below w.heap.size w wr)) (fun iv _ => (X.rev + 1).toNat - (intOf iv).toNat)
        case atStart => exact ⟨kf, Int.le_refl _, by omega, rfl, HJK, HB⟩
        case round =>
          clear HJK HB
          obtain ⟨q, hq0, hq1, rfl, HJ, HB⟩ := hrel
          obtain ⟨g9, na9, cap9, hrd9⟩ := HJ.out.reads (by omega)
          have HRR := Lib.hid hrd9.rr
          have hz : w.heap.size ≤ wr.heap.size := HB.out.size
          by_cases hqr : (q : Int) ≤ X.rev
          · have HRG := Lib.hid (range_j HJ.out (by omega) (fun z hz2 => Nat.lt_of_lt_of_le hz2 hz) ⟨#[]⟩ ⟨#[]⟩ 1000 q)
            have hLn := rgW_len HP.out ⟨#[]⟩ ⟨#[]⟩ 1000 q
            rw [rgW_all HP.out (by omega) q (by have := HKF.out; omega) hqr] at HRG hLn
            dsimp only at HRG hLn
            obtain ⟨Lq, hLq⟩ : ∃ Lq, Lq = X.A.getD q [] := ⟨_, rfl⟩
            rw [← hLq] at HRG hLn
            have HLQ := Lib.hid hLq
            clear hrd9 hLq
            go_upto_region 13 with (first | (go_at_call 10; (with_reducible refine HRR.out.mono ?_); rintro e w4 ⟨rfl, hw4⟩; subst w4) | (go_at_call 15; (with_reducible refine HRG.out.mono ?_); rintro e w5 ⟨v5, M5, rfl, hM5, ho5, hj5, hf5⟩; have HO5 := Lib.hid ho5; have HJ5 := Lib.hid hj5; have HF5 := Lib.hid hf5; clear ho5 hj5 hf5 hM5))
            have HB5 : Hid (Below w.heap.size w w5) := HB.out.trans (fr_below HF5.out (fun z h => h) hz)
            obtain ⟨g5, na5, cap5, hrd5⟩ := HJ5.out.reads (by omega)
            have d0 := hrd5.c0
            have hna := hrd5.hna
            obtain ⟨a5, c5, d1, hr5⟩ := hrd5.it q hqr
            rw [← HLQ.out] at d1 hr5
            have hq0' : (0 : Int) ≤ (q : Int) := by omega
            have hqn : (q : Int) < (na5 : Int) := by omega
            have HSM := Lib.hid (Same_c (OwI.rd HO5.out) hr5 (by omega))
            have HJ6 : Hid (Jn (fun z => z < w.heap.size) c r kl vl j X w5) := HJ5.out.weak (fun k h => .inl h)
            obtain ⟨a6, p6, hv6⟩ := own_form HO5.out
            subst hv6
            clear hrd5 hr5 HRG HJ5 HO5 HJ HF5 HRR
            go_wp2_with (go_at_call 16; (with_reducible refine HSM.out.mono ?_); rintro e w7 ⟨rfl, hb7⟩; have HB7 := Lib.hid hb7; clear hb7)
            go_roundw
            case rel => exact ⟨q + 1, by omega, by omega, by go_num, HJ6.out.go HB7.out, Lib.hid (HB5.out.trans (HB7.out.mono HB5.out.size))⟩
            case measure => simp [intOf]; omega
          · clear hrd9
            go_wp2_with (first | (go_at_call 10; (with_reducible refine HRR.out.mono ?_); rintro e w4 ⟨rfl, hw4⟩; subst w4) | (go_at_call 17; (with_reducible refine (HAW.out _).mono ?_); rintro e w6 ⟨rfl, hb6⟩; have HB6 := Lib.hid hb6; clear hb6))
            go_ret
            exact ⟨rfl, HB.out.trans (HB6.out.mono HB.out.size)⟩
    · have hjl : ¬ (j : Int) < (len : Int) := by omega
      go_upto_region 9 with (fail)
      have HJK := Lib.hid HJ.out
      obtain ⟨g9, na9, cap9, hrd9⟩ := HJ.out.reads (by omega)
      have c39 := hrd9.c3
      have hP := HJ.out.1
      obtain ⟨kf, hkf⟩ : ∃ kf : Nat, (kf : Int) = X.fl := ⟨X.fl.toNat, by have := hP.h0; omega⟩
      have hkf1 : (kf : Int) ≤ X.rev := by have := hP.h1; omega
      rw [← hkf] at c39
      have HKF := Lib.hid hkf
      have HP := Lib.hid hP
      have hrb := hP.b1
      have HAW := Lib.hid awake_c
      clear hrd9 HJ hP hkf
      go_upto_region 10 with (fail)
      clear c39
      go_loopw [11] (fun iv wr => ∃ (q : Nat), (kf : Int) ≤ q ∧ (q : Int) ≤ X.rev + 1 ∧ iv = .int .i64 (q : Int) ∧ Hid (Jn (fun z => z < w.heap.size) c r kl vl j X wr) ∧ Hid (Below w.heap.size w wr)) (fun iv _ => (X.rev + 1).toNat - (intOf iv).toNat)
      case atStart => exact ⟨kf, Int.le_refl _, by omega, rfl, HJK, HB⟩
      case round =>
        clear HJK HB
        obtain ⟨q, hq0, hq1, rfl, HJ, HB⟩ := hrel
        obtain ⟨g9, na9, cap9, hrd9⟩ := HJ.out.reads (by omega)
        have HRR := Lib.hid hrd9.rr
        have hz : w.heap.size ≤ wr.heap.size := HB.out.size
        by_cases hqr : (q : Int) ≤ X.rev
        · have HRG := Lib.hid (range_j HJ.out (by omega) (fun z hz2 => Nat.lt_of_lt_of_le hz2 hz) ⟨#[]⟩ ⟨#[]⟩ 1000 q)
          have hLn := rgW_len HP.out ⟨#[]⟩ ⟨#[]⟩ 1000 q
          rw [rgW_all HP.out (by omega) q (by have := HKF.out; omega) hqr] at HRG hLn
          dsimp only at HRG hLn
          obtain ⟨Lq, hLq⟩ : ∃ Lq, Lq = X.A.getD q [] := ⟨_, rfl⟩
          rw [← hLq] at HRG hLn
          have HLQ := Lib.hid hLq
          clear hrd9 hLq
          go_upto_region 13 with (first | (go_at_call 10; (with_reducible refine HRR.out.mono ?_); rintro e w4 ⟨rfl, hw4⟩; subst w4) | (go_at_call 15; (with_reducible refine HRG.out.mono ?_); rintro e w5 ⟨v5, M5, rfl, hM5, ho5, hj5, hf5⟩; have HO5 := Lib.hid ho5; have HJ5 := Lib.hid hj5; have HF5 := Lib.hid hf5; clear ho5 hj5 hf5 hM5))
          have HB5 : Hid (Below w.heap.size w w5) := HB.out.trans (fr_below HF5.out (fun z h => h) hz)
          obtain ⟨g5, na5, cap5, hrd5⟩ := HJ5.out.reads (by omega)
          have d0 := hrd5.c0
          have hna := hrd5.hna
          obtain ⟨a5, c5, d1, hr5⟩ := hrd5.it q hqr
          rw [← HLQ.out] at d1 hr5
          have hq0' : (0 : Int) ≤ (q : Int) := by omega
          have hqn : (q : Int) < (na5 : Int) := by omega
          have HSM := Lib.hid (Same_c (OwI.rd HO5.out) hr5 (by omega))
          have HJ6 : Hid (Jn (fun z => z < w.heap.size) c r kl vl j X w5) := HJ5.out.weak (fun k h => .inl h)
          obtain ⟨a6, p6, hv6⟩ := own_form HO5.out
          subst hv6
          clear hrd5 hr5 HRG HJ5 HO5 HJ HF5 HRR
          go_wp2_with (go_at_call 16; (with_reducible refine HSM.out.mono ?_); rintro e w7 ⟨rfl, hb7⟩; have HB7 := Lib.hid hb7; clear hb7)
          go_roundw
          case rel => exact ⟨q + 1, by omega, by omega, by go_num, HJ6.out.go HB7.out, Lib.hid (HB5.out.trans (HB7.out.mono HB5.out.size))⟩
          case measure => simp [intOf]; omega
        · clear hrd9
          go_wp2_with (first | (go_at_call 10; (with_reducible refine HRR.out.mono ?_); rintro e w4 ⟨rfl, hw4⟩; subst w4) | (go_at_call 17; (with_reducible refine (HAW.out _).mono ?_); rintro e w6 ⟨rfl, hb6⟩; have HB6 := Lib.hid hb6; clear hb6))
          go_ret
          exact ⟨rfl, HB.out.trans (HB6.out.mono HB.out.size)⟩
end Go.Proofs.Ytjceofkcahfhmaa.Mv
