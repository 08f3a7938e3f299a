/- The law ClogPlays answers yes; no other condition. -/
import Derived.Test.YtcmcbocegdejjaaClQ
import Derived.Deep.RegionWith
import Derived.Deep.DeepCutAuto
namespace Go.Proofs.Ytcmcbocegdejjaa.Cl
open Go.RowKit Go.Lib Go.Shelf Go.Sort
set_option linter.unusedSimpArgs false
set_option linter.unusedVariables false

theorem wpAnyH_imp {P : Program} {md : Region.Mode} {ops : Array Oper} {Q : Exit → Act → World → Prop} {S S' : World → Prop} (h : ∀ W, S' W → S W) : ∀ (fuel : Nat) (listed : Array Bool) (a : Act) (w : World), wpAnyH P md ops Q S' fuel listed a w → wpAnyH P md ops Q S fuel listed a w
  | 0, _, _, _, hh => hh
  | fuel + 1, _, _, _, hh => ⟨hh.1, fun i hi => wpOp_mono (fun a' w' h' => ⟨h _ h'.1, wpAnyH_imp h fuel _ a' w' h'.2⟩) (hh.2 i hi)⟩
def PrX (c d : Nat) (m : Int) (s : LS) (w W : World) : Prop := ∃ gb gd, Pr c gb d gd m s s w W
set_option maxRecDepth 100000 in
set_option maxHeartbeats 4000000 in
theorem plays_law (m : Int) (a : Option Addr) (len cap : Nat) (ts : List OpT) (rev : Int) (w : World) (h : IsOps w a len ts) :
    Calls Try.prog 3 #[.int .i64 m, .slice a len cap, .int .i64 rev] w fun e w' => e = .returned (.bool true) ∧ Below w.heap.size w w' := by
  have HI := Lib.hid h
  have hlen := h.2.1
  have htl := h.1
  unfold maxLen at hlen
  clear h
  go_enter Try.func3, Try.ntmps3
  go_wp2_with fail
  refine (New_c m w).mono ?_
  rintro e w1 ⟨rfl, hn1, hb1⟩
  have HN1 := Lib.hid hn1
  have HB1 := Lib.hid hb1
  clear hn1 hb1
  go_wp2_with fail
  refine (New_r m w1).mono ?_
  rintro e w2 ⟨rfl, hn2, hb2⟩
  have K0 := Lib.hid (Pr.new HN1.out HB1.out hn2 hb2)
  clear hn2 hb2 HN1 HB1
  generalize w1.heap.size = d at K0 ⊢
  obtain ⟨c, hc⟩ : ∃ c, c = w.heap.size := ⟨_, rfl⟩
  rw [← hc] at K0 ⊢
  have HC := Lib.hid hc
  clear hc
  go_wp2
  go_loopw [23] (fun iv wr => ∃ (j : Nat) (gb gd : Option Nat), j ≤ len ∧ j ≤ 25 ∧ iv = .int .i64 j ∧ Hid (Pr c gb d gd m (runF m LS.zero ts j) (runF m LS.zero ts j) w wr)) (fun iv _ => len - (intOf iv).toNat)
  case atStart => exact ⟨0, none, none, by omega, by omega, rfl, K0⟩
  case round =>
    clear K0
    obtain ⟨j, gb, gd, hj, hj25, rfl, HK⟩ := hrel
    have HBD := Lib.hid (runF_bd m LS.zero ts j)
    by_cases hlt : j < len
    · obtain ⟨g, off, hao, hg, hat⟩ := (HI.out.go HK.out.bel).2.2.2 (by omega)
      subst hao
      obtain ⟨p0, p1⟩ := hat j (by omega)
      have hj0 : (0 : Int) ≤ (j : Int) := by omega
      have hjl : (j : Int) < (len : Int) := by omega
      have HRO := (HI.out.go HK.out.bel).2.2.1 (ts[j]'(by omega)) (List.getElem_mem _)
      have HSU : Hid (runF m LS.zero ts (j + 1) = adO m (runF m LS.zero ts j) (ts[j]'(by omega))) := runF_succ (by omega)
      have HBD1 := runF_bd m LS.zero ts (j + 1)
      obtain ⟨⟨k, v, cs⟩, ho⟩ : ∃ o : OpT, ts[j]'(by omega) = o := ⟨_, rfl⟩
      rw [ho] at p0 p1 HSU HRO
      simp only at p0 p1 HRO
      obtain ⟨av, cv, hv, _⟩ := HRO.1
      subst hv
      clear hat ho
      obtain ⟨W1, hW1, hk1, hb1⟩ := new2 wr (.int .i64 k) (.slice av cs.length cv) 29
      have HW1 := Lib.hid hW1
      have hgn : g ≠ wr.heap.size := by omega
      have K1 := Lib.hid (HK.out.go hb1)
      obtain ⟨q0, q1⟩ := cells2 hk1
      have HR1 := Lib.hid (HRO.1.go hb1)
      have HR2 := Lib.hid HRO.2
      clear hW1 hk1 hb1 HRO
      by_cases h25 : j < 25
      · have h25' : ¬ (25 : Int) ≤ (j : Int) := by omega
        have h25'' : (j : Int) < (25 : Int) := by omega
        have HAD := Lib.hid (add_c (K1.out.go (bdr W1)) (k, .slice av cs.length cv, cs) (HR1.out.go (bdr W1)) HR2.out (by have := HBD.out.1; have := zero_bd.1; omega) (by have := HBD.out.2; have := zero_bd.2; omega))
        unfold opV AdQ at HAD
        rw [← HSU.out] at HAD
        have hsl : (runF m LS.zero ts (j + 1)).all.length ≤ 1000000 := by have := HBD1.1; have := zero_bd.1; omega
        clear HBD1
        revert HAD hsl
        generalize hs' : runF m LS.zero ts (j + 1) = s'
        have HS' := Lib.hid hs'
        clear hs'
        intro HAD hsl
        go_upto_region 6 with (fail)
        rw [← HW1.out]
        go_cut [64] (fun v wx => v = .bool false ∧ PrX c d m s' w wx)
        case first =>
          refine wp_region_held_drew (S := fun _ => True) (by kernel_rfl) trivial (fun hHeld => ?_)
          refine wpAnyH_take (i := 0) (oi := ?o0) (v := ?v0) ?e0 ?a0 ?b0 ?c0 ?q0 (Or.inl ⟨?w0, ?h0⟩) ?s0 ?r0
          case e0 => (simp only [List.getElem?_toArray, List.getElem?_cons_zero, List.getElem?_cons_succ]; rfl)
          case a0 => kernel_rfl
          case b0 => kernel_rfl
          case c0 => kernel_rfl
          case q0 => exact fun _ _ _ h => h
          case w0 => rfl
          case s0 => assumption
          case h0 => (intro W hSw; go_simp; try with_reducible rfl)
          try simp only [Act.put, List.setIfInBounds_toArray, List.set_cons_zero, List.set_cons_succ]
          refine wpAnyH_take (i := 1) (oi := ?o1) (v := ?v1) ?e1 ?a1 ?b1 ?c1 ?q1 (Or.inl ⟨?w1, ?h1⟩) ?s1 ?r1
          case e1 => (simp only [List.getElem?_toArray, List.getElem?_cons_zero, List.getElem?_cons_succ]; rfl)
          case a1 => kernel_rfl
          case b1 => kernel_rfl
          case c1 => kernel_rfl
          case q1 => exact fun _ _ _ h => h
          case w1 => rfl
          case s1 => assumption
          case h1 => (intro W hSw; go_simp; try with_reducible rfl)
          try simp only [Act.put, List.setIfInBounds_toArray, List.set_cons_zero, List.set_cons_succ]
          refine wpAnyH_ready (rs := [2]) (by kernel_rfl) (by simp) (AllReadyH.cons (o := ?o2) ?e2 (fun K hK => ?k2) AllReadyH.nil)
          case e2 => (simp only [List.getElem?_toArray, List.getElem?_cons_zero, List.getElem?_cons_succ]; rfl)
          go_simp
          refine hK.out _ _ trivial (fun hHeld => ?_)
          clear hK K
          try simp only [Act.put, List.setIfInBounds_toArray, List.set_cons_zero, List.set_cons_succ]
          refine wpAnyH_ready (rs := [3]) (by kernel_rfl) (by simp) (AllReadyH.cons (o := ?o3) ?e3 (fun K hK => ?k3) AllReadyH.nil)
          case e3 => (simp only [List.getElem?_toArray, List.getElem?_cons_zero, List.getElem?_cons_succ]; rfl)
          go_simp
          (with_reducible refine HAD.out.mono ?_)
          rintro e w5 ⟨rfl, gb5, gd5, hP⟩
          have HP5 := Lib.hid hP
          have HA5 := Lib.hid (Above_c hP.rf s'.fl hsl)
          obtain ⟨vr, hvr, _, _⟩ := hP.rf.ex
          obtain ⟨r0, r1, r2, r3⟩ := cells4 hvr
          clear hvr hP r0 r1
          go_wp2_with fail
          refine hK.out _ _ trivial (fun hHeld => ?_)
          clear hK K
          try simp only [Act.put, List.setIfInBounds_toArray, List.set_cons_zero, List.set_cons_succ]
          refine wpAnyH_imp (S' := (fun V => V.cell? ⟨d, 2, none⟩ = some (.int .i64 s'.fl) ∧ V.cell? ⟨d, 3, none⟩ = some (.int .i64 s'.la))) (fun W h => trivial) _ _ _ _ ?_
          have hH5 : (fun V => V.cell? ⟨d, 2, none⟩ = some (.int .i64 s'.fl) ∧ V.cell? ⟨d, 3, none⟩ = some (.int .i64 s'.la)) w5 := ⟨r2, r3⟩
          clear hHeld
          refine wpAnyH_take (i := 4) (oi := ?o4) (v := ?v4) ?e4 ?a4 ?b4 ?c4 ?q4 (Or.inl ⟨?w4, ?h4⟩) ?s4 ?r4
          case e4 => (simp only [List.getElem?_toArray, List.getElem?_cons_zero, List.getElem?_cons_succ]; rfl)
          case a4 => kernel_rfl
          case b4 => kernel_rfl
          case c4 => kernel_rfl
          case q4 => exact fun _ _ _ h => h
          case w4 => rfl
          case s4 => assumption
          case h4 => (intro W hSw; obtain ⟨hS2, hS3⟩ := hSw; go_simp; try with_reducible rfl)
          try simp only [Act.put, List.setIfInBounds_toArray, List.set_cons_zero, List.set_cons_succ]
          refine wpAnyH_take (i := 5) (oi := ?o5) (v := ?v5) ?e5 ?a5 ?b5 ?c5 ?q5 (Or.inl ⟨?w5, ?h5⟩) ?s5 ?r5
          case e5 => (simp only [List.getElem?_toArray, List.getElem?_cons_zero, List.getElem?_cons_succ]; rfl)
          case a5 => kernel_rfl
          case b5 => kernel_rfl
          case c5 => kernel_rfl
          case q5 => exact fun _ _ _ h => h
          case w5 => rfl
          case s5 => assumption
          case h5 => (intro W hSw; obtain ⟨hS2, hS3⟩ := hSw; go_simp; try with_reducible rfl)
          try simp only [Act.put, List.setIfInBounds_toArray, List.set_cons_zero, List.set_cons_succ]
          refine wpAnyH_take (i := 6) (oi := ?o6) (v := ?v6) ?e6 ?a6 ?b6 ?c6 ?q6 (Or.inl ⟨?w6, ?h6⟩) ?s6 ?r6
          case e6 => (simp only [List.getElem?_toArray, List.getElem?_cons_zero, List.getElem?_cons_succ]; rfl)
          case a6 => kernel_rfl
          case b6 => kernel_rfl
          case c6 => kernel_rfl
          case q6 => exact fun _ _ _ h => h
          case w6 => rfl
          case s6 => assumption
          case h6 => (intro W hSw; obtain ⟨hS2, hS3⟩ := hSw; go_simp; try with_reducible rfl)
          try simp only [Act.put, List.setIfInBounds_toArray, List.set_cons_zero, List.set_cons_succ]
          refine wpAnyH_take (i := 8) (oi := ?o8) (v := ?v8) ?e8 ?a8 ?b8 ?c8 ?q8 (Or.inl ⟨?w8, ?h8⟩) ?s8 ?r8
          case e8 => (simp only [List.getElem?_toArray, List.getElem?_cons_zero, List.getElem?_cons_succ]; rfl)
          case a8 => kernel_rfl
          case b8 => kernel_rfl
          case c8 => kernel_rfl
          case q8 => exact fun _ _ _ h => h
          case w8 => rfl
          case s8 => assumption
          case h8 => (intro W hSw; obtain ⟨hS2, hS3⟩ := hSw; go_simp; try with_reducible rfl)
          try simp only [Act.put, List.setIfInBounds_toArray, List.set_cons_zero, List.set_cons_succ]
          refine wpAnyH_take (i := 9) (oi := ?o9) (v := ?v9) ?e9 ?a9 ?b9 ?c9 ?q9 (Or.inl ⟨?w9, ?h9⟩) ?s9 ?r9
          case e9 => (simp only [List.getElem?_toArray, List.getElem?_cons_zero, List.getElem?_cons_succ]; rfl)
          case a9 => kernel_rfl
          case b9 => kernel_rfl
          case c9 => kernel_rfl
          case q9 => exact fun _ _ _ h => h
          case w9 => rfl
          case s9 => assumption
          case h9 => (intro W hSw; obtain ⟨hS2, hS3⟩ := hSw; go_simp; try with_reducible rfl)
          try simp only [Act.put, List.setIfInBounds_toArray, List.set_cons_zero, List.set_cons_succ]
          refine wpAnyH_take (i := 10) (oi := ?o10) (v := ?v10) ?e10 ?a10 ?b10 ?c10 ?q10 (Or.inl ⟨?w10, ?h10⟩) ?s10 ?r10
          case e10 => (simp only [List.getElem?_toArray, List.getElem?_cons_zero, List.getElem?_cons_succ]; rfl)
          case a10 => kernel_rfl
          case b10 => kernel_rfl
          case c10 => kernel_rfl
          case q10 => exact fun _ _ _ h => h
          case w10 => rfl
          case s10 => assumption
          case h10 => (intro W hSw; obtain ⟨hS2, hS3⟩ := hSw; go_simp; try with_reducible rfl)
          try simp only [Act.put, List.setIfInBounds_toArray, List.set_cons_zero, List.set_cons_succ]
          refine wpAnyH_take (i := 11) (oi := ?o11) (v := ?v11) ?e11 ?a11 ?b11 ?c11 ?q11 (Or.inl ⟨?w11, ?h11⟩) ?s11 ?r11
          case e11 => (simp only [List.getElem?_toArray, List.getElem?_cons_zero, List.getElem?_cons_succ]; rfl)
          case a11 => kernel_rfl
          case b11 => kernel_rfl
          case c11 => kernel_rfl
          case q11 => exact fun _ _ _ h => h
          case w11 => rfl
          case s11 => assumption
          case h11 => (intro W hSw; obtain ⟨hS2, hS3⟩ := hSw; go_simp; try with_reducible rfl)
          try simp only [Act.put, List.setIfInBounds_toArray, List.set_cons_zero, List.set_cons_succ]
          refine wpAnyH_ready (rs := [7]) (by kernel_rfl) (by simp) (AllReadyH.cons (o := ?o7z) ?e7z (fun K hK => ?k7z) AllReadyH.nil)
          case e7z => (simp only [List.getElem?_toArray, List.getElem?_cons_zero, List.getElem?_cons_succ]; rfl)
          go_simp
          (with_reducible refine (Floor_c HP5.out.lg).mono ?_)
          rintro e w6 ⟨rfl, rfl⟩
          go_wp2_with fail
          refine hK.out _ _ hH5 (fun _ => ?_)
          clear hK K
          try simp only [Act.put, List.setIfInBounds_toArray, List.set_cons_zero, List.set_cons_succ]
          refine wpAnyH_take (i := 12) (oi := ?o12) (v := ?v12) ?e12 ?a12 ?b12 ?c12 ?q12 (Or.inl ⟨?w12, ?h12⟩) ?s12 ?r12
          case e12 => (simp only [List.getElem?_toArray, List.getElem?_cons_zero, List.getElem?_cons_succ]; rfl)
          case a12 => kernel_rfl
          case b12 => kernel_rfl
          case c12 => kernel_rfl
          case q12 => exact fun _ _ _ h => h
          case w12 => rfl
          case s12 => assumption
          case h12 => (intro W hSw; obtain ⟨hS2, hS3⟩ := hSw; go_simp; try with_reducible rfl)
          try simp only [Act.put, List.setIfInBounds_toArray, List.set_cons_zero, List.set_cons_succ]
          refine wpAnyH_take (i := 13) (oi := ?o13) (v := ?v13) ?e13 ?a13 ?b13 ?c13 ?q13 (Or.inl ⟨?w13, ?h13⟩) ?s13 ?r13
          case e13 => (simp only [List.getElem?_toArray, List.getElem?_cons_zero, List.getElem?_cons_succ]; rfl)
          case a13 => kernel_rfl
          case b13 => kernel_rfl
          case c13 => kernel_rfl
          case q13 => exact fun _ _ _ h => h
          case w13 => rfl
          case s13 => assumption
          case h13 => (intro W hSw; obtain ⟨hS2, hS3⟩ := hSw; go_simp; try with_reducible rfl)
          try simp only [Act.put, List.setIfInBounds_toArray, List.set_cons_zero, List.set_cons_succ]
          refine wpAnyH_take (i := 14) (oi := ?o14) (v := ?v14) ?e14 ?a14 ?b14 ?c14 ?q14 (Or.inl ⟨?w14, ?h14⟩) ?s14 ?r14
          case e14 => (simp only [List.getElem?_toArray, List.getElem?_cons_zero, List.getElem?_cons_succ]; rfl)
          case a14 => kernel_rfl
          case b14 => kernel_rfl
          case c14 => kernel_rfl
          case q14 => exact fun _ _ _ h => h
          case w14 => rfl
          case s14 => assumption
          case h14 => (intro W hSw; obtain ⟨hS2, hS3⟩ := hSw; go_simp; try with_reducible rfl)
          try simp only [Act.put, List.setIfInBounds_toArray, List.set_cons_zero, List.set_cons_succ]
          refine wpAnyH_take (i := 15) (oi := ?o15) (v := ?v15) ?e15 ?a15 ?b15 ?c15 ?q15 (Or.inl ⟨?w15, ?h15⟩) ?s15 ?r15
          case e15 => (simp only [List.getElem?_toArray, List.getElem?_cons_zero, List.getElem?_cons_succ]; rfl)
          case a15 => kernel_rfl
          case b15 => kernel_rfl
          case c15 => kernel_rfl
          case q15 => exact fun _ _ _ h => h
          case w15 => rfl
          case s15 => assumption
          case h15 => (intro W hSw; obtain ⟨hS2, hS3⟩ := hSw; go_simp; try with_reducible rfl)
          try simp only [Act.put, List.setIfInBounds_toArray, List.set_cons_zero, List.set_cons_succ]
          refine wpAnyH_take (i := 17) (oi := ?o17) (v := ?v17) ?e17 ?a17 ?b17 ?c17 ?q17 (Or.inl ⟨?w17, ?h17⟩) ?s17 ?r17
          case e17 => (simp only [List.getElem?_toArray, List.getElem?_cons_zero, List.getElem?_cons_succ]; rfl)
          case a17 => kernel_rfl
          case b17 => kernel_rfl
          case c17 => kernel_rfl
          case q17 => exact fun _ _ _ h => h
          case w17 => rfl
          case s17 => assumption
          case h17 => (intro W hSw; obtain ⟨hS2, hS3⟩ := hSw; go_simp; try with_reducible rfl)
          try simp only [Act.put, List.setIfInBounds_toArray, List.set_cons_zero, List.set_cons_succ]
          refine wpAnyH_take (i := 18) (oi := ?o18) (v := ?v18) ?e18 ?a18 ?b18 ?c18 ?q18 (Or.inl ⟨?w18, ?h18⟩) ?s18 ?r18
          case e18 => (simp only [List.getElem?_toArray, List.getElem?_cons_zero, List.getElem?_cons_succ]; rfl)
          case a18 => kernel_rfl
          case b18 => kernel_rfl
          case c18 => kernel_rfl
          case q18 => exact fun _ _ _ h => h
          case w18 => rfl
          case s18 => assumption
          case h18 => (intro W hSw; obtain ⟨hS2, hS3⟩ := hSw; go_simp; try with_reducible rfl)
          try simp only [Act.put, List.setIfInBounds_toArray, List.set_cons_zero, List.set_cons_succ]
          refine wpAnyH_take (i := 19) (oi := ?o19) (v := ?v19) ?e19 ?a19 ?b19 ?c19 ?q19 (Or.inl ⟨?w19, ?h19⟩) ?s19 ?r19
          case e19 => (simp only [List.getElem?_toArray, List.getElem?_cons_zero, List.getElem?_cons_succ]; rfl)
          case a19 => kernel_rfl
          case b19 => kernel_rfl
          case c19 => kernel_rfl
          case q19 => exact fun _ _ _ h => h
          case w19 => rfl
          case s19 => assumption
          case h19 => (intro W hSw; obtain ⟨hS2, hS3⟩ := hSw; go_simp; try with_reducible rfl)
          try simp only [Act.put, List.setIfInBounds_toArray, List.set_cons_zero, List.set_cons_succ]
          refine wpAnyH_take (i := 20) (oi := ?o20) (v := ?v20) ?e20 ?a20 ?b20 ?c20 ?q20 (Or.inl ⟨?w20, ?h20⟩) ?s20 ?r20
          case e20 => (simp only [List.getElem?_toArray, List.getElem?_cons_zero, List.getElem?_cons_succ]; rfl)
          case a20 => kernel_rfl
          case b20 => kernel_rfl
          case c20 => kernel_rfl
          case q20 => exact fun _ _ _ h => h
          case w20 => rfl
          case s20 => assumption
          case h20 => (intro W hSw; obtain ⟨hS2, hS3⟩ := hSw; go_simp; try with_reducible rfl)
          try simp only [Act.put, List.setIfInBounds_toArray, List.set_cons_zero, List.set_cons_succ]
          refine wpAnyH_ready (rs := [16]) (by kernel_rfl) (by simp) (AllReadyH.cons (o := ?o16z) ?e16z (fun K hK => ?k16z) AllReadyH.nil)
          case e16z => (simp only [List.getElem?_toArray, List.getElem?_cons_zero, List.getElem?_cons_succ]; rfl)
          go_simp
          (with_reducible refine (Last_c HP5.out.lg).mono ?_)
          rintro e w6 ⟨rfl, rfl⟩
          go_wp2_with fail
          refine hK.out _ _ hH5 (fun _ => ?_)
          clear hK K
          try simp only [Act.put, List.setIfInBounds_toArray, List.set_cons_zero, List.set_cons_succ]
          refine wpAnyH_take (i := 21) (oi := ?o21) (v := ?v21) ?e21 ?a21 ?b21 ?c21 ?q21 (Or.inl ⟨?w21, ?h21⟩) ?s21 ?r21
          case e21 => (simp only [List.getElem?_toArray, List.getElem?_cons_zero, List.getElem?_cons_succ]; rfl)
          case a21 => kernel_rfl
          case b21 => kernel_rfl
          case c21 => kernel_rfl
          case q21 => exact fun _ _ _ h => h
          case w21 => rfl
          case s21 => assumption
          case h21 => (intro W hSw; obtain ⟨hS2, hS3⟩ := hSw; go_simp; try with_reducible rfl)
          try simp only [Act.put, List.setIfInBounds_toArray, List.set_cons_zero, List.set_cons_succ]
          refine wpAnyH_take (i := 22) (oi := ?o22) (v := ?v22) ?e22 ?a22 ?b22 ?c22 ?q22 (Or.inl ⟨?w22, ?h22⟩) ?s22 ?r22
          case e22 => (simp only [List.getElem?_toArray, List.getElem?_cons_zero, List.getElem?_cons_succ]; rfl)
          case a22 => kernel_rfl
          case b22 => kernel_rfl
          case c22 => kernel_rfl
          case q22 => exact fun _ _ _ h => h
          case w22 => rfl
          case s22 => assumption
          case h22 => (intro W hSw; obtain ⟨hS2, hS3⟩ := hSw; go_simp; try with_reducible rfl)
          try simp only [Act.put, List.setIfInBounds_toArray, List.set_cons_zero, List.set_cons_succ]
          refine wpAnyH_take (i := 23) (oi := ?o23) (v := ?v23) ?e23 ?a23 ?b23 ?c23 ?q23 (Or.inl ⟨?w23, ?h23⟩) ?s23 ?r23
          case e23 => (simp only [List.getElem?_toArray, List.getElem?_cons_zero, List.getElem?_cons_succ]; rfl)
          case a23 => kernel_rfl
          case b23 => kernel_rfl
          case c23 => kernel_rfl
          case q23 => exact fun _ _ _ h => h
          case w23 => rfl
          case s23 => assumption
          case h23 => (intro W hSw; obtain ⟨hS2, hS3⟩ := hSw; go_simp; try with_reducible rfl)
          try simp only [Act.put, List.setIfInBounds_toArray, List.set_cons_zero, List.set_cons_succ]
          refine wpAnyH_take (i := 24) (oi := ?o24) (v := ?v24) ?e24 ?a24 ?b24 ?c24 ?q24 (Or.inl ⟨?w24, ?h24⟩) ?s24 ?r24
          case e24 => (simp only [List.getElem?_toArray, List.getElem?_cons_zero, List.getElem?_cons_succ]; rfl)
          case a24 => kernel_rfl
          case b24 => kernel_rfl
          case c24 => kernel_rfl
          case q24 => exact fun _ _ _ h => h
          case w24 => rfl
          case s24 => assumption
          case h24 => (intro W hSw; obtain ⟨hS2, hS3⟩ := hSw; go_simp; try with_reducible rfl)
          try simp only [Act.put, List.setIfInBounds_toArray, List.set_cons_zero, List.set_cons_succ]
          refine wpAnyH_take (i := 26) (oi := ?o26) (v := ?v26) ?e26 ?a26 ?b26 ?c26 ?q26 (Or.inl ⟨?w26, ?h26⟩) ?s26 ?r26
          case e26 => (simp only [List.getElem?_toArray, List.getElem?_cons_zero, List.getElem?_cons_succ]; rfl)
          case a26 => kernel_rfl
          case b26 => kernel_rfl
          case c26 => kernel_rfl
          case q26 => exact fun _ _ _ h => h
          case w26 => rfl
          case s26 => assumption
          case h26 => (intro W hSw; obtain ⟨hS2, hS3⟩ := hSw; go_simp; try with_reducible rfl)
          try simp only [Act.put, List.setIfInBounds_toArray, List.set_cons_zero, List.set_cons_succ]
          refine wpAnyH_take (i := 27) (oi := ?o27) (v := ?v27) ?e27 ?a27 ?b27 ?c27 ?q27 (Or.inl ⟨?w27, ?h27⟩) ?s27 ?r27
          case e27 => (simp only [List.getElem?_toArray, List.getElem?_cons_zero, List.getElem?_cons_succ]; rfl)
          case a27 => kernel_rfl
          case b27 => kernel_rfl
          case c27 => kernel_rfl
          case q27 => exact fun _ _ _ h => h
          case w27 => rfl
          case s27 => assumption
          case h27 => (intro W hSw; obtain ⟨hS2, hS3⟩ := hSw; go_simp; try with_reducible rfl)
          try simp only [Act.put, List.setIfInBounds_toArray, List.set_cons_zero, List.set_cons_succ]
          refine wpAnyH_take (i := 28) (oi := ?o28) (v := ?v28) ?e28 ?a28 ?b28 ?c28 ?q28 (Or.inl ⟨?w28, ?h28⟩) ?s28 ?r28
          case e28 => (simp only [List.getElem?_toArray, List.getElem?_cons_zero, List.getElem?_cons_succ]; rfl)
          case a28 => kernel_rfl
          case b28 => kernel_rfl
          case c28 => kernel_rfl
          case q28 => exact fun _ _ _ h => h
          case w28 => rfl
          case s28 => assumption
          case h28 => (intro W hSw; obtain ⟨hS2, hS3⟩ := hSw; go_simp; try with_reducible rfl)
          try simp only [Act.put, List.setIfInBounds_toArray, List.set_cons_zero, List.set_cons_succ]
          refine wpAnyH_take (i := 29) (oi := ?o29) (v := ?v29) ?e29 ?a29 ?b29 ?c29 ?q29 (Or.inl ⟨?w29, ?h29⟩) ?s29 ?r29
          case e29 => (simp only [List.getElem?_toArray, List.getElem?_cons_zero, List.getElem?_cons_succ]; rfl)
          case a29 => kernel_rfl
          case b29 => kernel_rfl
          case c29 => kernel_rfl
          case q29 => exact fun _ _ _ h => h
          case w29 => rfl
          case s29 => assumption
          case h29 => (intro W hSw; obtain ⟨hS2, hS3⟩ := hSw; go_simp; try with_reducible rfl)
          try simp only [Act.put, List.setIfInBounds_toArray, List.set_cons_zero, List.set_cons_succ]
          refine wpAnyH_take (i := 30) (oi := ?o30) (v := ?v30) ?e30 ?a30 ?b30 ?c30 ?q30 (Or.inl ⟨?w30, ?h30⟩) ?s30 ?r30
          case e30 => (simp only [List.getElem?_toArray, List.getElem?_cons_zero, List.getElem?_cons_succ]; rfl)
          case a30 => kernel_rfl
          case b30 => kernel_rfl
          case c30 => kernel_rfl
          case q30 => exact fun _ _ _ h => h
          case w30 => rfl
          case s30 => assumption
          case h30 => (intro W hSw; obtain ⟨hS2, hS3⟩ := hSw; go_simp; try with_reducible rfl)
          try simp only [Act.put, List.setIfInBounds_toArray, List.set_cons_zero, List.set_cons_succ]
          refine wpAnyH_ready (rs := [25]) (by kernel_rfl) (by simp) (AllReadyH.cons (o := ?o25z) ?e25z (fun K hK => ?k25z) AllReadyH.nil)
          case e25z => (simp only [List.getElem?_toArray, List.getElem?_cons_zero, List.getElem?_cons_succ]; rfl)
          go_simp
          (with_reducible refine (Len_c HP5.out.lg).mono ?_)
          rintro e w6 ⟨rfl, rfl⟩
          go_wp2_with fail
          refine hK.out _ _ hH5 (fun _ => ?_)
          clear hK K
          try simp only [Act.put, List.setIfInBounds_toArray, List.set_cons_zero, List.set_cons_succ]
          refine wpAnyH_ready (rs := [31]) (by kernel_rfl) (by simp) (AllReadyH.cons (o := ?o31y) ?e31y (fun K hK => ?k31y) AllReadyH.nil)
          case e31y => (simp only [List.getElem?_toArray, List.getElem?_cons_zero, List.getElem?_cons_succ]; rfl)
          go_simp
          (with_reducible refine HA5.out.mono ?_)
          rintro e w7 ⟨v7, rfl, ⟨a7, c7, rfl, _⟩, hb7⟩
          have HP7 := Lib.hid (HP5.out.go hb7)
          have hH7 : (fun V => V.cell? ⟨d, 2, none⟩ = some (.int .i64 s'.fl) ∧ V.cell? ⟨d, 3, none⟩ = some (.int .i64 s'.la)) w7 := ⟨(hb7.cell (p := ⟨d, 2, none⟩) HP5.out.rf.lt).trans r2, (hb7.cell (p := ⟨d, 3, none⟩) HP5.out.rf.lt).trans r3⟩
          clear hb7
          go_wp2_with fail
          refine hK.out _ _ hH7 (fun _ => ?_)
          clear hK K
          try simp only [Act.put, List.setIfInBounds_toArray, List.set_cons_zero, List.set_cons_succ]
          refine wpAnyH_take (i := 32) (oi := ?o32) (v := ?v32) ?e32 ?a32 ?b32 ?c32 ?q32 (Or.inl ⟨?w32, ?h32⟩) ?s32 ?r32
          case e32 => (simp only [List.getElem?_toArray, List.getElem?_cons_zero, List.getElem?_cons_succ]; rfl)
          case a32 => kernel_rfl
          case b32 => kernel_rfl
          case c32 => kernel_rfl
          case q32 => exact fun _ _ _ h => h
          case w32 => rfl
          case s32 => assumption
          case h32 => (intro W hSw; obtain ⟨hS2, hS3⟩ := hSw; go_simp; try with_reducible rfl)
          try simp only [Act.put, List.setIfInBounds_toArray, List.set_cons_zero, List.set_cons_succ]
          refine wpAnyH_take (i := 33) (oi := ?o33) (v := ?v33) ?e33 ?a33 ?b33 ?c33 ?q33 (Or.inl ⟨?w33, ?h33⟩) ?s33 ?r33
          case e33 => (simp only [List.getElem?_toArray, List.getElem?_cons_zero, List.getElem?_cons_succ]; rfl)
          case a33 => kernel_rfl
          case b33 => kernel_rfl
          case c33 => kernel_rfl
          case q33 => exact fun _ _ _ h => h
          case w33 => rfl
          case s33 => assumption
          case h33 => (intro W hSw; obtain ⟨hS2, hS3⟩ := hSw; go_simp; try with_reducible rfl)
          try simp only [Act.put, List.setIfInBounds_toArray, List.set_cons_zero, List.set_cons_succ]
          refine wpAnyH_take (i := 34) (oi := ?o34) (v := ?v34) ?e34 ?a34 ?b34 ?c34 ?q34 (Or.inl ⟨?w34, ?h34⟩) ?s34 ?r34
          case e34 => (simp only [List.getElem?_toArray, List.getElem?_cons_zero, List.getElem?_cons_succ]; rfl)
          case a34 => kernel_rfl
          case b34 => kernel_rfl
          case c34 => kernel_rfl
          case q34 => exact fun _ _ _ h => h
          case w34 => rfl
          case s34 => assumption
          case h34 => (intro W hSw; obtain ⟨hS2, hS3⟩ := hSw; go_simp; try with_reducible rfl)
          try simp only [Act.put, List.setIfInBounds_toArray, List.set_cons_zero, List.set_cons_succ]
          refine wpAnyH_done (by kernel_rfl) ?_ _
          go_wp2_with fail
          go_meet
          exact ⟨rfl, _, _, HP7.out⟩
        case rest =>
          obtain ⟨rfl, gb5, gd5, hP5⟩ := hcut
          have HP5 := Lib.hid hP5
          clear hP5
          go_wp2
          go_roundw
          case rel => exact ⟨j + 1, gb5, gd5, by omega, by omega, by go_num, by rw [HS'.out]; exact HP5⟩
          case measure => simp [intOf]; omega
      · have h25' : (25 : Int) ≤ (j : Int) := by omega
        have h25'' : ¬ (j : Int) < (25 : Int) := by omega
        have hsl : (runF m LS.zero ts j).all.length ≤ 1000000 := by have := HBD.out.1; have := zero_bd.1; omega
        have KZ := K1
        clear HSU HBD1 HR1 HR2 HBD HK K1
        revert hsl KZ
        generalize runF m LS.zero ts j = L
        intro hsl KZ
        go_wp2_with fail
        rw [← HW1.out]
        refine (Since_c KZ.out.lg KZ.out.rs rev hsl).mono ?_
        rintro e w3 ⟨vx, rfl, hrx, hb3⟩
        have K3 := Lib.hid (KZ.out.go hb3)
        have RX3 := Lib.hid hrx
        clear hrx hb3 KZ
        go_wp2_with fail
        refine (Since_r K3.out.rf rev hsl).mono ?_
        rintro e w4 ⟨vw, rfl, hrw, hb4⟩
        have K4 := Lib.hid (K3.out.go hb4)
        have RX4 := Lib.hid (RX3.out.go hb4)
        have RW4 := Lib.hid hrw
        have HS4 := Lib.hid (Since_c K4.out.lg K4.out.rs L.fl hsl)
        rw [(snc_fl K4.out.rs).1, (snc_fl K4.out.rs).2] at HS4
        obtain ⟨vr, hvr, _, _⟩ := K4.out.rf.ex
        obtain ⟨r0, r1, r2, r3⟩ := cells4 hvr
        clear hrw hb4 K3 RX3 hvr r0 r1
        generalize sncE L rev = E
        go_wp2_with fail
        refine HS4.out.mono ?_
        rintro e w5 ⟨vy, rfl, hry, hb5⟩
        have K5 := Lib.hid (K4.out.go hb5)
        have RX5 := Lib.hid (RX4.out.go hb5)
        have RW5 := Lib.hid (RW4.out.go hb5)
        have RY5 := Lib.hid hry
        have hsn := Nat.le_trans (snc_len L rev) hsl
        have hsa := Nat.le_trans (abv_len L.all L.fl) hsl
        clear hry hb5 K4 RX4 RW4 HS4 r2 r3
        obtain ⟨vr, hvr, _, _⟩ := K5.out.rf.ex
        obtain ⟨r0, r1, r2, r3⟩ := cells4 hvr
        clear hvr r0 r1
        go_wp2_with fail
        refine (Same_c RX5.out RW5.out hsn).mono ?_
        rintro e w6 ⟨rfl, hb6⟩
        have K6 := Lib.hid (K5.out.go hb6)
        have RY6 := Lib.hid (RY5.out.go hb6)
        clear hb6 K5 RX5 RW5 RY5 r2 r3
        obtain ⟨vr, hvr, _, _⟩ := K6.out.rf.ex
        obtain ⟨r0, r1, r2, r3⟩ := cells4 hvr
        clear hvr r0 r1
        go_wp2_with fail
        refine (Above_c K6.out.rf L.fl hsl).mono ?_
        rintro e w7 ⟨va, rfl, hra, hb7⟩
        have K7 := Lib.hid (K6.out.go hb7)
        have RY7 := Lib.hid (RY6.out.go hb7)
        have RA7 := Lib.hid hra
        clear hra hb7 K6 RY6 r2 r3
        go_wp2_with fail
        refine (Same_c RY7.out RA7.out hsa).mono ?_
        rintro e w8 ⟨rfl, hb8⟩
        have K8 := Lib.hid (K7.out.go hb8)
        clear hb8 K7 RY7 RA7
        go_wp2_with fail
        refine (awake_c w8).mono ?_
        rintro e w9 ⟨rfl, hb9⟩
        have B9 : Hid (Below w.heap.size w w9) := K8.out.bel.trans (hb9.mono K8.out.bel.size)
        clear hb9 K8
        go_wp2
        go_ret
        exact ⟨rfl, B9.out⟩
    · have hjl : ¬ (j : Int) < (len : Int) := by omega
      have hsl : (runF m LS.zero ts j).all.length ≤ 1000000 := by have := HBD.out.1; have := zero_bd.1; omega
      have KZ := HK
      clear HBD HK
      revert hsl KZ
      generalize runF m LS.zero ts j = L
      intro hsl KZ
      go_wp2_with fail
      refine (Since_c KZ.out.lg KZ.out.rs rev hsl).mono ?_
      rintro e w3 ⟨vx, rfl, hrx, hb3⟩
      have K3 := Lib.hid (KZ.out.go hb3)
      have RX3 := Lib.hid hrx
      clear hrx hb3 KZ
      go_wp2_with fail
      refine (Since_r K3.out.rf rev hsl).mono ?_
      rintro e w4 ⟨vw, rfl, hrw, hb4⟩
      have K4 := Lib.hid (K3.out.go hb4)
      have RX4 := Lib.hid (RX3.out.go hb4)
      have RW4 := Lib.hid hrw
      have HS4 := Lib.hid (Since_c K4.out.lg K4.out.rs L.fl hsl)
      rw [(snc_fl K4.out.rs).1, (snc_fl K4.out.rs).2] at HS4
      obtain ⟨vr, hvr, _, _⟩ := K4.out.rf.ex
      obtain ⟨r0, r1, r2, r3⟩ := cells4 hvr
      clear hrw hb4 K3 RX3 hvr r0 r1
      generalize sncE L rev = E
      go_wp2_with fail
      refine HS4.out.mono ?_
      rintro e w5 ⟨vy, rfl, hry, hb5⟩
      have K5 := Lib.hid (K4.out.go hb5)
      have RX5 := Lib.hid (RX4.out.go hb5)
      have RW5 := Lib.hid (RW4.out.go hb5)
      have RY5 := Lib.hid hry
      have hsn := Nat.le_trans (snc_len L rev) hsl
      have hsa := Nat.le_trans (abv_len L.all L.fl) hsl
      clear hry hb5 K4 RX4 RW4 HS4 r2 r3
      obtain ⟨vr, hvr, _, _⟩ := K5.out.rf.ex
      obtain ⟨r0, r1, r2, r3⟩ := cells4 hvr
      clear hvr r0 r1
      go_wp2_with fail
      refine (Same_c RX5.out RW5.out hsn).mono ?_
      rintro e w6 ⟨rfl, hb6⟩
      have K6 := Lib.hid (K5.out.go hb6)
      have RY6 := Lib.hid (RY5.out.go hb6)
      clear hb6 K5 RX5 RW5 RY5 r2 r3
      obtain ⟨vr, hvr, _, _⟩ := K6.out.rf.ex
      obtain ⟨r0, r1, r2, r3⟩ := cells4 hvr
      clear hvr r0 r1
      go_wp2_with fail
      refine (Above_c K6.out.rf L.fl hsl).mono ?_
      rintro e w7 ⟨va, rfl, hra, hb7⟩
      have K7 := Lib.hid (K6.out.go hb7)
      have RY7 := Lib.hid (RY6.out.go hb7)
      have RA7 := Lib.hid hra
      clear hra hb7 K6 RY6 r2 r3
      go_wp2_with fail
      refine (Same_c RY7.out RA7.out hsa).mono ?_
      rintro e w8 ⟨rfl, hb8⟩
      have K8 := Lib.hid (K7.out.go hb8)
      clear hb8 K7 RY7 RA7
      go_wp2_with fail
      refine (awake_c w8).mono ?_
      rintro e w9 ⟨rfl, hb9⟩
      have B9 : Hid (Below w.heap.size w w9) := K8.out.bel.trans (hb9.mono K8.out.bel.size)
      clear hb9 K8
      go_wp2
      go_ret
      exact ⟨rfl, B9.out⟩
end Go.Proofs.Ytcmcbocegdejjaa.Cl
