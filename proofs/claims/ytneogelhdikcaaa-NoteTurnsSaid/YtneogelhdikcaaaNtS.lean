/- The law NotePlays answers yes; no other condition. -/
import Derived.Test.YtneogelhdikcaaaNtR
import Derived.Deep.RegionWith
import Derived.Deep.DeepCutAuto
import Derived.Deep.RegionHeld
namespace Go.Proofs.Ytneogelhdikcaaa.Nt
open Go.RowKit Go.Lib Go.Maps
set_option linter.unusedSimpArgs false
set_option linter.unusedVariables false

theorem wpAnyH_imp {P : Program} {md : Region.Mode} {ops : Array Oper} {Q : Exit → Act → World → Prop} {S S' : World → Prop} (h : ∀ W, S' W → S W) : ∀ (fuel : Nat) (listed : Array Bool) (a : Act) (w : World), wpAnyH P md ops Q S' fuel listed a w → wpAnyH P md ops Q S fuel listed a w
  | 0, _, _, _, hh => hh
  | fuel + 1, _, _, _, hh => ⟨hh.1, fun i hi => wpOp_mono (fun a' w' h' => ⟨h _ h'.1, wpAnyH_imp h fuel _ a' w' h'.2⟩) (hh.2 i hi)⟩
def sinL (all : List Ent) (M seq : Int) : List Ent := if seq < ((all.length - M.toNat : Nat) : Int) then [] else if (all.length : Int) < seq then [] else all.drop seq.toNat
def sinZ (all : List Ent) (M seq : Int) : Int := if seq < ((all.length - M.toNat : Nat) : Int) then 9 else if (all.length : Int) < seq then 1 else 0
def SiQ (all : List Ent) (M seq : Int) (w : World) (e : Ending) (w' : World) : Prop := ∃ v, e = .returned (.tuple #[v, .int .i64 (sinZ all M seq)]) ∧ RdE v (sinL all M seq) w' ∧ Below w.heap.size w w'
theorem Since_rr {B d : Nat} {ga nb : Option Nat} {M : Int} {now : List Tx} {all : List Ent} {w : World} (h : IsRb B d ga nb M now all w) (hM : 1 ≤ M) (ha : all.length ≤ 1000000) (seq : Int) : Calls Try.prog 18 #[.pointer (some ⟨d, 0, none⟩), .int .i64 seq] w (SiQ all M seq w) := by
  refine (Since_r h hM ha seq).mono ?_
  rintro e w' ⟨v, l, z, rfl, h1, h2, h3⟩
  unfold SiQ sinL sinZ
  rcases h3 with ⟨a, rfl, rfl⟩ | ⟨a, b, rfl, rfl⟩ | ⟨a, b, rfl, rfl⟩
  · rw [if_pos a, if_pos a]; exact ⟨v, rfl, h1, h2⟩
  · rw [if_neg a, if_pos b, if_neg a, if_pos b]; exact ⟨v, rfl, h1, h2⟩
  · rw [if_neg a, if_neg b, if_neg a, if_neg b]; exact ⟨v, rfl, h1, h2⟩
theorem Since_n {B c : Nat} {gb mb : Option Nat} {m : Int} {now : List Tx} {all : List Ent} {w : World} (h : IsNo B c gb mb m now all w) (ha : all.length ≤ 500000) (seq : Int) : Calls Try.prog 17 #[.pointer (some ⟨c, 0, none⟩), .int .i64 seq] w (SiQ all (max m 1) seq w) := by
  unfold SiQ sinL sinZ
  by_cases a : seq < ((all.length - (max m 1).toNat : Nat) : Int)
  · rw [if_pos a, if_pos a]
    refine (Since_gone h seq a).mono ?_
    rintro e w' ⟨rfl, rfl⟩
    exact ⟨_, rfl, Rd.nil _ _ _ _, Below.refl _ _⟩
  · by_cases b : (all.length : Int) < seq
    · rw [if_neg a, if_pos b, if_neg a, if_pos b]
      refine (Since_arg h seq a b).mono ?_
      rintro e w' ⟨rfl, rfl⟩
      exact ⟨_, rfl, Rd.nil _ _ _ _, Below.refl _ _⟩
    · rw [if_neg a, if_neg b, if_neg a, if_neg b]
      have hl : (all.drop (dd m all)).length = all.length - dd m all := List.length_drop
      have hdd : dd m all ≤ all.length := by unfold dd; omega
      have a2 : ¬ seq < ((dd m all : Nat) : Int) := a
      refine (Since_ok h (seq.toNat - dd m all) (by rw [hl]; omega) (by rw [hl]; omega) (by rw [hl]; omega) (by omega) (by omega) seq (by omega)).mono ?_
      rintro e w' ⟨v, rfl, h1, h2⟩
      rw [List.drop_drop, show dd m all + (seq.toNat - dd m all) = seq.toNat by omega] at h1
      exact ⟨v, rfl, h1, h2⟩
theorem sinL_len (all : List Ent) (M seq : Int) : (sinL all M seq).length ≤ all.length := by
  unfold sinL
  split
  · simp
  · split
    · simp
    · rw [List.length_drop]; omega
set_option maxRecDepth 100000 in
set_option maxHeartbeats 8000000 in
theorem plays_law (m : Int) (hm : (Lit.int .i64 m).wf = true) (v : Value) (ls : List (List Tx)) (seq : Int) (hseq : (Lit.int .i64 seq).wf = true) (w : World) (h : IsLs w v ls) :
    Calls Try.prog 3 #[.int .i64 m, v, .int .i64 seq] w fun e w' => e = .returned (.bool true) ∧ Below w.heap.size w w' := by
  have hmi : m ≤ 9223372036854775807 := by
    simp [Lit.wf, IntKind.min, IntKind.max, IntKind.signed, IntKind.bits] at hm
    omega
  obtain ⟨ao, cap, rfl, hat⟩ := h
  have HAT := Lib.hid hat
  clear hat hm hseq
  go_enter Try.func3, Try.ntmps3
  go_wp2_with fail
  refine (New_n m w).mono ?_
  rintro e w1 ⟨rfl, hn1, hb1⟩
  go_wp2_with fail
  refine (New_r m w1).mono ?_
  rintro e w2 ⟨rfl, hn2, hb2⟩
  have K0 := Lib.hid (Kb.new hn1 hb1 hn2 hb2)
  clear hn1 hb1 hn2 hb2
  obtain ⟨c, hc⟩ : ∃ c, c = w.heap.size := ⟨_, rfl⟩
  obtain ⟨d, hd⟩ : ∃ d, d = w1.heap.size := ⟨_, rfl⟩
  have e0 : Hid (Kb c none none d none none m [] [] [] [] w w2) := by rw [hc, hd]; exact K0
  rw [← hc, ← hd]
  clear K0 hc hd
  go_wp2
  go_loopw [24] (fun iv wr => ∃ (j : Nat) (gb mb ga nb : Option Nat), j ≤ ls.length ∧ j ≤ 20 ∧ iv = .int .i64 j ∧ Hid (Kb c gb mb d ga nb m (nowL ls j) (nowL ls j) (allL (fun k => (k : Int) + 1) ls j) (allL (fun k => (k : Int) + 1) ls j) w wr)) (fun iv _ => 21 - (intOf iv).toNat)
  case atStart => exact ⟨0, none, none, none, none, by omega, by omega, rfl, e0⟩
  case round =>
    obtain ⟨j, gb, mb, ga, nb, hj, hj20, rfl, HK⟩ := hrel
    clear e0
    have hal := allL_len (fun k => (k : Int) + 1) ls j
    by_cases hlt : j < ls.length
    · obtain ⟨g, off, hao, hg, hcells⟩ := HAT.out (by omega)
      obtain ⟨u, p0', hts⟩ := hcells j hlt
      have p0 := (HK.out.bel.cell (p := ⟨g, off + j, none⟩) hg).trans p0'
      have hjl : (j : Int) < (ls.length : Int) := by omega
      have hj0 : (0 : Int) ≤ (j : Int) := by omega
      obtain ⟨gsj, hgsj⟩ : ∃ gsj, gsj = ls[j] := ⟨_, rfl⟩
      rw [← hgsj] at hts
      have hgd : ls.getD j [] = gsj := by rw [hgsj, List.getD_eq_getElem?_getD, List.getElem?_eq_getElem hlt]; rfl
      have HTS := Lib.hid hts
      subst hao
      clear p0' hcells hts hgsj
      by_cases h20 : 20 ≤ j
      · have h20' : (20 : Int) ≤ (j : Int) := by omega
        clear HTS hgd
        have HS1 := Lib.hid (Since_n HK.out.no (by omega) seq)
        have hsl := sinL_len (allL (fun k => (k : Int) + 1) ls j) (max m 1) seq
        have HS2 : Hid (∀ V, Below wr.heap.size wr V → Calls Try.prog 18 #[.pointer (some ⟨d, 0, none⟩), .int .i64 seq] V (SiQ (allL (fun k => (k : Int) + 1) ls j) (max m 1) seq V)) := fun V hV => Since_rr (HK.out.rb.go hV) (by omega) (by omega) seq
        have HBW : Hid (Below w.heap.size w wr) := HK.out.bel
        clear HK
        unfold SiQ at HS1 HS2
        revert HS1 HS2 hsl
        generalize sinL (allL (fun k => (k : Int) + 1) ls j) (max m 1) seq = sl
        generalize sinZ (allL (fun k => (k : Int) + 1) ls j) (max m 1) seq = sz
        intro HS1 hsl HS2
        go_wp2_with fail
        (with_reducible refine HS1.out.mono ?_)
        rintro e w5 ⟨v5, rfl, hr5, hb5⟩
        have HR5 := Lib.hid hr5
        have HB5 := Lib.hid hb5
        have HP := Lib.hid (HS2.out w5 hb5)
        clear hr5 hb5 HS1 HS2
        go_wp2_with fail
        (with_reducible refine HP.out.mono ?_)
        rintro e w6 ⟨v6, rfl, hr6, hb6⟩
        have HSM := Lib.hid (Same_c (HR5.out.go hb6) hr6 (by omega))
        have HB6 : Hid (Below w.heap.size w w6) := (HBW.out.trans (HB5.out.mono HBW.out.size)).trans (hb6.mono (HBW.out.trans (HB5.out.mono HBW.out.size)).size)
        clear hr6 hb6 HP HB5 HR5 HBW
        go_wp2_with fail
        (with_reducible refine HSM.out.mono ?_)
        rintro e w7 ⟨rfl, hb7⟩
        have HB7 : Hid (Below w.heap.size w w7) := HB6.out.trans (hb7.mono HB6.out.size)
        clear hb7 HB6 HSM
        go_wp2_with fail
        refine (awake_c w7).mono ?_
        rintro e w8 ⟨rfl, hb8⟩
        have HB8 : Hid (Below w.heap.size w w8) := HB7.out.trans (hb8.mono HB7.out.size)
        clear hb8 HB7
        go_wp2
        go_ret
        exact ⟨rfl, HB8.out⟩
      · have h20' : ¬ (20 : Int) ≤ (j : Int) := by omega
        have h20'' : (j : Int) < 20 := by omega
        have HKD := Lib.hid (HK.out.go (bdr wr))
        have hal1 := allL_len (fun k => (k : Int) + 1) ls (j + 1)
        obtain ⟨g8, hg8⟩ : ∃ g8, g8 = gsj.take 8 := ⟨_, rfl⟩
        have hl8 : g8.length ≤ 8 := by rw [hg8, List.length_take]; omega
        have HFW : Hid (∀ V, Below w.heap.size w V → Calls Try.prog 10 #[u] V fun e w' => w' = V ∧ ∃ v', e = .returned v' ∧ IsTs V v' g8) := fun V hV => by rw [hg8]; exact few_c u gsj V (HTS.out.go hV)
        have HF1 := Lib.hid (HFW.out wr.drew HKD.out.bel)
        have HTL : Hid ((told (canon g8) (nowL ls j)).length ≤ 1000000) := by
          show _ ≤ _
          have h1 := told_len (now := canon g8) (old := nowL ls j)
          have h2 := canon_len g8
          have h3 := nowL_len ls j
          omega
        have HJ : Hid (∀ gb mb ga nb w6 (x : Unit) (y : Unit), Kb c gb mb d ga nb m (canon g8) (canon g8) (stepE (allL (fun k => (k : Int) + 1) ls j) (nowL ls j) ((j : Int) + 1) g8) (stepE (allL (fun k => (k : Int) + 1) ls j) (nowL ls j) ((j : Int) + 1) g8) w w6 → Kb c gb mb d ga nb m (nowL ls (j + 1)) (nowL ls (j + 1)) (allL (fun k => (k : Int) + 1) ls (j + 1)) (allL (fun k => (k : Int) + 1) ls (j + 1)) w w6) := fun gb mb ga nb w6 _ _ h => by
          have e1 : nowL ls (j + 1) = canon g8 := by show canon ((ls.getD j []).take 8) = _; rw [hgd, hg8]
          have e2 : allL (fun k => (k : Int) + 1) ls (j + 1) = stepE (allL (fun k => (k : Int) + 1) ls j) (nowL ls j) ((j : Int) + 1) g8 := by show stepE _ _ _ ((ls.getD j []).take 8) = _; rw [hgd, hg8]
          rw [e1, e2]; exact h
        clear HK hgd hg8 HTS
        go_upto_region 7 with (fail)
        refine wp_region_held_drew (S := fun _ => True) (by kernel_rfl) trivial (fun hHeld => ?_)
        refine wpAnyH_take (i := 0) (oi := ?o0) (v := ?v0) ?e0 ?a0 ?b0 ?c0 ?q0 (Or.inl ⟨?w0, ?h0⟩) ?s0 ?r0
        case e0 => (simp only [List.getElem?_toArray, List.getElem?_cons_zero, List.getElem?_cons_succ]; rfl)
        case a0 => kernel_rfl
        case b0 => kernel_rfl
        case c0 => kernel_rfl
        case q0 => exact fun _ _ _ h => h
        case w0 => rfl
        case s0 => assumption
        case h0 => (intro W hSw; go_simp; try with_reducible rfl)
        try simp only [Act.put, List.setIfInBounds_toArray, List.set_cons_zero, List.set_cons_succ]
        refine wpAnyH_take (i := 1) (oi := ?o1) (v := ?v1) ?e1 ?a1 ?b1 ?c1 ?q1 (Or.inl ⟨?w1, ?h1⟩) ?s1 ?r1
        case e1 => (simp only [List.getElem?_toArray, List.getElem?_cons_zero, List.getElem?_cons_succ]; rfl)
        case a1 => kernel_rfl
        case b1 => kernel_rfl
        case c1 => kernel_rfl
        case q1 => exact fun _ _ _ h => h
        case w1 => rfl
        case s1 => assumption
        case h1 => (intro W hSw; go_simp; try with_reducible rfl)
        try simp only [Act.put, List.setIfInBounds_toArray, List.set_cons_zero, List.set_cons_succ]
        refine wpAnyH_take (i := 2) (oi := ?o2) (v := ?v2) ?e2 ?a2 ?b2 ?c2 ?q2 (Or.inl ⟨?w2, ?h2⟩) ?s2 ?r2
        case e2 => (simp only [List.getElem?_toArray, List.getElem?_cons_zero, List.getElem?_cons_succ]; rfl)
        case a2 => kernel_rfl
        case b2 => kernel_rfl
        case c2 => kernel_rfl
        case q2 => exact fun _ _ _ h => h
        case w2 => rfl
        case s2 => assumption
        case h2 => (intro W hSw; go_simp; try with_reducible rfl)
        try simp only [Act.put, List.setIfInBounds_toArray, List.set_cons_zero, List.set_cons_succ]
        refine wpAnyH_take (i := 5) (oi := ?o5) (v := ?v5) ?e5 ?a5 ?b5 ?c5 ?q5 (Or.inl ⟨?w5, ?h5⟩) ?s5 ?r5
        case e5 => (simp only [List.getElem?_toArray, List.getElem?_cons_zero, List.getElem?_cons_succ]; rfl)
        case a5 => kernel_rfl
        case b5 => kernel_rfl
        case c5 => kernel_rfl
        case q5 => exact fun _ _ _ h => h
        case w5 => rfl
        case s5 => assumption
        case h5 => (intro W hSw; go_simp; try with_reducible rfl)
        try simp only [Act.put, List.setIfInBounds_toArray, List.set_cons_zero, List.set_cons_succ]
        refine wpAnyH_take (i := 6) (oi := ?o6) (v := ?v6) ?e6 ?a6 ?b6 ?c6 ?q6 (Or.inl ⟨?w6, ?h6⟩) ?s6 ?r6
        case e6 => (simp only [List.getElem?_toArray, List.getElem?_cons_zero, List.getElem?_cons_succ]; rfl)
        case a6 => kernel_rfl
        case b6 => kernel_rfl
        case c6 => kernel_rfl
        case q6 => exact fun _ _ _ h => h
        case w6 => rfl
        case s6 => assumption
        case h6 => (intro W hSw; go_simp; try with_reducible rfl)
        try simp only [Act.put, List.setIfInBounds_toArray, List.set_cons_zero, List.set_cons_succ]
        refine wpAnyH_take (i := 7) (oi := ?o7) (v := ?v7) ?e7 ?a7 ?b7 ?c7 ?q7 (Or.inl ⟨?w7, ?h7⟩) ?s7 ?r7
        case e7 => (simp only [List.getElem?_toArray, List.getElem?_cons_zero, List.getElem?_cons_succ]; rfl)
        case a7 => kernel_rfl
        case b7 => kernel_rfl
        case c7 => kernel_rfl
        case q7 => exact fun _ _ _ h => h
        case w7 => rfl
        case s7 => assumption
        case h7 => (intro W hSw; go_simp; try with_reducible rfl)
        try simp only [Act.put, List.setIfInBounds_toArray, List.set_cons_zero, List.set_cons_succ]
        refine wpAnyH_ready (rs := [3]) (by kernel_rfl) (by simp) (AllReadyH.cons (o := ?o3) ?e3 (fun K hK => ?k3) AllReadyH.nil)
        case e3 => (simp only [List.getElem?_toArray, List.getElem?_cons_zero, List.getElem?_cons_succ]; rfl)
        go_simp
        (with_reducible refine HF1.out.mono ?_)
        rintro e w3 ⟨rfl, v3, rfl, hts⟩
        obtain ⟨a3, c3, rfl, hlc, hsz3, hr3, _⟩ := hts
        have HST := Lib.hid (Step_n HKD.out.no (allL_seq _ ls j) HKD.out.bel.size ((j : Int) + 1) a3 c3 g8 hr3 (by omega) hsz3 (by have := nowL_len ls j; omega) (by omega) hmi)
        clear hlc hsz3 hr3
        go_wp2_with fail
        refine hK.out _ _ trivial (fun hHeld => ?_)
        clear hK K
        try simp only [Act.put, List.setIfInBounds_toArray, List.set_cons_zero, List.set_cons_succ]
        refine wpAnyH_ready (rs := [4]) (by kernel_rfl) (by simp) (AllReadyH.cons (o := ?o4) ?e4 (fun K hK => ?k4) AllReadyH.nil)
        case e4 => (simp only [List.getElem?_toArray, List.getElem?_cons_zero, List.getElem?_cons_succ]; rfl)
        go_simp
        (with_reducible refine HST.out.mono ?_)
        rintro e w4 ⟨v4, mb4, gb4, rfl, hr4, hno4, hch4, hnb4, hmb4, hv4⟩
        have HK4 := Lib.hid (HKD.out.stepP hno4 hch4 hnb4 hmb4)
        have HR4 := Lib.hid hr4
        have HV4 : Hid (∀ g, v4.ownBlock = some g → g ≠ d ∧ ga ≠ some g) := fun g hg => by
          have h1 := (hv4 g hg).1
          exact ⟨by have := HKD.out.rb.lt; omega, fun e => by have := (HKD.out.rb.row g e).2; omega⟩
        have HF2 := Lib.hid (HFW.out w4 HK4.out.bel)
        clear hr4 hno4 hch4 hnb4 hmb4 hv4 HST HF1
        go_wp2_with fail
        refine hK.out _ _ trivial (fun hHeld => ?_)
        clear hK K
        try simp only [Act.put, List.setIfInBounds_toArray, List.set_cons_zero, List.set_cons_succ]
        refine wpAnyH_ready (rs := [8]) (by kernel_rfl) (by simp) (AllReadyH.cons (o := ?o8) ?e8 (fun K hK => ?k8) AllReadyH.nil)
        case e8 => (simp only [List.getElem?_toArray, List.getElem?_cons_zero, List.getElem?_cons_succ]; rfl)
        go_simp
        (with_reducible refine HF2.out.mono ?_)
        rintro e w5 ⟨rfl, v5, rfl, hts⟩
        obtain ⟨a5, c5, rfl, hlc, hsz5, hr5, _⟩ := hts
        have HSR := Lib.hid (Step_r HK4.out.rb HK4.out.bel.size ((j : Int) + 1) a5 c5 g8 hr5 (by omega) (by have := nowL_len ls j; omega) (by omega))
        clear hlc hsz5 hr5
        go_wp2_with fail
        refine hK.out _ _ trivial (fun hHeld => ?_)
        clear hK K
        try simp only [Act.put, List.setIfInBounds_toArray, List.set_cons_zero, List.set_cons_succ]
        refine wpAnyH_ready (rs := [9]) (by kernel_rfl) (by simp) (AllReadyH.cons (o := ?o9) ?e9 (fun K hK => ?k9) AllReadyH.nil)
        case e9 => (simp only [List.getElem?_toArray, List.getElem?_cons_zero, List.getElem?_cons_succ]; rfl)
        go_simp
        (with_reducible refine HSR.out.mono ?_)
        rintro e w6 ⟨v6, ga6, nb6, rfl, hr6, hrb6, hch6, hna6, hnn6⟩
        have HK6 : Hid (Kb c gb4 mb4 d ga6 nb6 m (nowL ls (j + 1)) (nowL ls (j + 1)) (allL (fun k => (k : Int) + 1) ls (j + 1)) (allL (fun k => (k : Int) + 1) ls (j + 1)) w w6) := HJ.out _ _ _ _ _ () () (HK4.out.stepR hrb6 hch6 hna6 hnn6)
        have HSM := Lib.hid (Same_c (HR4.out.keep hch6.size (fun g hg h => hch6.block g h (HV4.out g hg).1 (fun e => (HV4.out g hg).2 e.symm))) hr6 (by rw [nums_len]; exact HTL.out))
        clear hr6 hrb6 hch6 hna6 hnn6 HSR HK4 HR4 HV4 HF2
        go_wp2_with fail
        refine hK.out _ _ trivial (fun hHeld => ?_)
        clear hK K
        try simp only [Act.put, List.setIfInBounds_toArray, List.set_cons_zero, List.set_cons_succ]
        obtain ⟨vA, vN, hvA, hoA, eA, hoN, eN⟩ := HK6.out.rb.ex
        obtain ⟨aA, cA, rfl, _, _⟩ := hoA.form
        have HVA := Lib.hid (cells3 hvA).1
        have HDL := Lib.hid HK6.out.rb.lt
        obtain ⟨nl, hnl⟩ : ∃ nl : Nat, nl = (allL (fun k => (k : Int) + 1) ls (j + 1)).length := ⟨_, rfl⟩
        obtain ⟨nd, hnd⟩ : ∃ nd : Nat, nd = dd m (allL (fun k => (k : Int) + 1) ls (j + 1)) := ⟨_, rfl⟩
        have HLA : Hid (∀ V, IsNo w.heap.size c gb4 mb4 m (nowL ls (j + 1)) (allL (fun k => (k : Int) + 1) ls (j + 1)) V → Calls Try.prog 12 #[.pointer (some ⟨c, 0, none⟩)] V fun e w' => e = .returned (.int .i64 (nl : Int)) ∧ w' = V) := fun V h => by rw [hnl]; exact Last_c h
        have HFL : Hid (∀ V, IsNo w.heap.size c gb4 mb4 m (nowL ls (j + 1)) (allL (fun k => (k : Int) + 1) ls (j + 1)) V → Calls Try.prog 13 #[.pointer (some ⟨c, 0, none⟩)] V fun e w' => e = .returned (.int .i64 (nd : Int)) ∧ w' = V) := fun V h => by rw [hnd]; exact Floor_c h
        have HLN : Hid (∀ V, IsNo w.heap.size c gb4 mb4 m (nowL ls (j + 1)) (allL (fun k => (k : Int) + 1) ls (j + 1)) V → Calls Try.prog 15 #[.pointer (some ⟨c, 0, none⟩)] V fun e w' => e = .returned (.int .i64 ((nl : Int) - (nd : Int))) ∧ w' = V) := fun V h => by
          have e : (nl : Int) - (nd : Int) = (((allL (fun k => (k : Int) + 1) ls (j + 1)).drop (dd m (allL (fun k => (k : Int) + 1) ls (j + 1)))).length : Nat) := by
            rw [List.length_drop, hnl, hnd]; unfold dd; omega
          rw [e]; exact Len_c h
        have HFR : Hid (∀ V, IsRb w.heap.size d ga6 nb6 (max m 1) (nowL ls (j + 1)) (allL (fun k => (k : Int) + 1) ls (j + 1)) V → Calls Try.prog 14 #[.pointer (some ⟨d, 0, none⟩)] V fun e w' => e = .returned (.int .i64 (nd : Int)) ∧ ∃ n, w' = V.drewN n) := fun V h => by
          rw [hnd]
          exact Floor_r h (by omega) (by omega)
        have l0 : (0 : Int) ≤ (nd : Int) := by omega
        have l1 : (nd : Int) ≤ (nl : Int) := by rw [hnl, hnd]; unfold dd; omega
        have l2 : (nl : Int) ≤ 1000 := by rw [hnl]; omega
        have l3 : IntKind.i64.wrap ((nl : Int) - (nd : Int)) = (nl : Int) - (nd : Int) := by rw [IntKind.wrap_i64]; omega
        rw [← hnl] at HVA
        clear hvA hoA eA hoN eN hnl hnd
        refine wpAnyH_imp (S' := (fun V => V.cell? ⟨d, 0, none⟩ = some (.slice aA nl cA))) (fun W h => trivial) _ _ _ _ ?_
        have hH6 : (fun V => V.cell? ⟨d, 0, none⟩ = some (.slice aA nl cA)) w6 := HVA.out
        clear hHeld
        refine wpAnyH_ready (rs := [10]) (by kernel_rfl) (by simp) (AllReadyH.cons (o := ?o10) ?e10 (fun K hK => ?k10) AllReadyH.nil)
        case e10 => (simp only [List.getElem?_toArray, List.getElem?_cons_zero, List.getElem?_cons_succ]; rfl)
        go_simp
        (with_reducible refine HSM.out.mono ?_)
        rintro e w7 ⟨rfl, hb7⟩
        have HK7 := Lib.hid (HK6.out.go hb7)
        have hH7 : (fun V => V.cell? ⟨d, 0, none⟩ = some (.slice aA nl cA)) w7 := (hb7.cell (p := ⟨d, 0, none⟩) HDL.out).trans HVA.out
        clear hb7 HSM HK6
        go_wp2_with fail
        refine hK.out _ _ hH7 (fun _ => ?_)
        clear hK K
        try simp only [Act.put, List.setIfInBounds_toArray, List.set_cons_zero, List.set_cons_succ]
        refine wpAnyH_take (i := 11) (oi := ?o11) (v := ?v11) ?e11 ?a11 ?b11 ?c11 ?q11 (Or.inl ⟨?w11, ?h11⟩) ?s11 ?r11
        case e11 => (simp only [List.getElem?_toArray, List.getElem?_cons_zero, List.getElem?_cons_succ]; rfl)
        case a11 => kernel_rfl
        case b11 => kernel_rfl
        case c11 => kernel_rfl
        case q11 => exact fun _ _ _ h => h
        case w11 => rfl
        case s11 => assumption
        case h11 => (intro W hSw; have hS0 := hSw; go_simp; try with_reducible rfl)
        try simp only [Act.put, List.setIfInBounds_toArray, List.set_cons_zero, List.set_cons_succ]
        refine wpAnyH_take (i := 12) (oi := ?o12) (v := ?v12) ?e12 ?a12 ?b12 ?c12 ?q12 (Or.inl ⟨?w12, ?h12⟩) ?s12 ?r12
        case e12 => (simp only [List.getElem?_toArray, List.getElem?_cons_zero, List.getElem?_cons_succ]; rfl)
        case a12 => kernel_rfl
        case b12 => kernel_rfl
        case c12 => kernel_rfl
        case q12 => exact fun _ _ _ h => h
        case w12 => rfl
        case s12 => assumption
        case h12 => (intro W hSw; have hS0 := hSw; go_simp; try with_reducible rfl)
        try simp only [Act.put, List.setIfInBounds_toArray, List.set_cons_zero, List.set_cons_succ]
        refine wpAnyH_take (i := 13) (oi := ?o13) (v := ?v13) ?e13 ?a13 ?b13 ?c13 ?q13 (Or.inl ⟨?w13, ?h13⟩) ?s13 ?r13
        case e13 => (simp only [List.getElem?_toArray, List.getElem?_cons_zero, List.getElem?_cons_succ]; rfl)
        case a13 => kernel_rfl
        case b13 => kernel_rfl
        case c13 => kernel_rfl
        case q13 => exact fun _ _ _ h => h
        case w13 => rfl
        case s13 => assumption
        case h13 => (intro W hSw; have hS0 := hSw; go_simp; try with_reducible rfl)
        try simp only [Act.put, List.setIfInBounds_toArray, List.set_cons_zero, List.set_cons_succ]
        refine wpAnyH_take (i := 15) (oi := ?o15) (v := ?v15) ?e15 ?a15 ?b15 ?c15 ?q15 (Or.inl ⟨?w15, ?h15⟩) ?s15 ?r15
        case e15 => (simp only [List.getElem?_toArray, List.getElem?_cons_zero, List.getElem?_cons_succ]; rfl)
        case a15 => kernel_rfl
        case b15 => kernel_rfl
        case c15 => kernel_rfl
        case q15 => exact fun _ _ _ h => h
        case w15 => rfl
        case s15 => assumption
        case h15 => (intro W hSw; have hS0 := hSw; go_simp; try with_reducible rfl)
        try simp only [Act.put, List.setIfInBounds_toArray, List.set_cons_zero, List.set_cons_succ]
        refine wpAnyH_take (i := 16) (oi := ?o16) (v := ?v16) ?e16 ?a16 ?b16 ?c16 ?q16 (Or.inl ⟨?w16, ?h16⟩) ?s16 ?r16
        case e16 => (simp only [List.getElem?_toArray, List.getElem?_cons_zero, List.getElem?_cons_succ]; rfl)
        case a16 => kernel_rfl
        case b16 => kernel_rfl
        case c16 => kernel_rfl
        case q16 => exact fun _ _ _ h => h
        case w16 => rfl
        case s16 => assumption
        case h16 => (intro W hSw; have hS0 := hSw; go_simp; try with_reducible rfl)
        try simp only [Act.put, List.setIfInBounds_toArray, List.set_cons_zero, List.set_cons_succ]
        refine wpAnyH_take (i := 17) (oi := ?o17) (v := ?v17) ?e17 ?a17 ?b17 ?c17 ?q17 (Or.inl ⟨?w17, ?h17⟩) ?s17 ?r17
        case e17 => (simp only [List.getElem?_toArray, List.getElem?_cons_zero, List.getElem?_cons_succ]; rfl)
        case a17 => kernel_rfl
        case b17 => kernel_rfl
        case c17 => kernel_rfl
        case q17 => exact fun _ _ _ h => h
        case w17 => rfl
        case s17 => assumption
        case h17 => (intro W hSw; have hS0 := hSw; go_simp; try with_reducible rfl)
        try simp only [Act.put, List.setIfInBounds_toArray, List.set_cons_zero, List.set_cons_succ]
        refine wpAnyH_take (i := 18) (oi := ?o18) (v := ?v18) ?e18 ?a18 ?b18 ?c18 ?q18 (Or.inl ⟨?w18, ?h18⟩) ?s18 ?r18
        case e18 => (simp only [List.getElem?_toArray, List.getElem?_cons_zero, List.getElem?_cons_succ]; rfl)
        case a18 => kernel_rfl
        case b18 => kernel_rfl
        case c18 => kernel_rfl
        case q18 => exact fun _ _ _ h => h
        case w18 => rfl
        case s18 => assumption
        case h18 => (intro W hSw; have hS0 := hSw; go_simp; try with_reducible rfl)
        try simp only [Act.put, List.setIfInBounds_toArray, List.set_cons_zero, List.set_cons_succ]
        refine wpAnyH_take (i := 19) (oi := ?o19) (v := ?v19) ?e19 ?a19 ?b19 ?c19 ?q19 (Or.inl ⟨?w19, ?h19⟩) ?s19 ?r19
        case e19 => (simp only [List.getElem?_toArray, List.getElem?_cons_zero, List.getElem?_cons_succ]; rfl)
        case a19 => kernel_rfl
        case b19 => kernel_rfl
        case c19 => kernel_rfl
        case q19 => exact fun _ _ _ h => h
        case w19 => rfl
        case s19 => assumption
        case h19 => (intro W hSw; have hS0 := hSw; go_simp; try with_reducible rfl)
        try simp only [Act.put, List.setIfInBounds_toArray, List.set_cons_zero, List.set_cons_succ]
        clear hH6
        refine wpAnyH_ready (rs := [14]) (by kernel_rfl) (by simp) (AllReadyH.cons (o := ?o14) ?e14 (fun K hK => ?k14) AllReadyH.nil)
        case e14 => (simp only [List.getElem?_toArray, List.getElem?_cons_zero, List.getElem?_cons_succ]; rfl)
        go_simp
        (with_reducible refine (HLA.out _ HK7.out.no).mono ?_)
        rintro e w8 ⟨rfl, hw8⟩
        rw [hw8]
        clear hw8 w8
        go_wp2_with fail
        refine hK.out _ _ hH7 (fun _ => ?_)
        clear hK K
        try simp only [Act.put, List.setIfInBounds_toArray, List.set_cons_zero, List.set_cons_succ]
        refine wpAnyH_take (i := 20) (oi := ?o20) (v := ?v20) ?e20 ?a20 ?b20 ?c20 ?q20 (Or.inl ⟨?w20, ?h20⟩) ?s20 ?r20
        case e20 => (simp only [List.getElem?_toArray, List.getElem?_cons_zero, List.getElem?_cons_succ]; rfl)
        case a20 => kernel_rfl
        case b20 => kernel_rfl
        case c20 => kernel_rfl
        case q20 => exact fun _ _ _ h => h
        case w20 => rfl
        case s20 => assumption
        case h20 => (intro W hSw; have hS0 := hSw; go_simp; try with_reducible rfl)
        try simp only [Act.put, List.setIfInBounds_toArray, List.set_cons_zero, List.set_cons_succ]
        refine wpAnyH_take (i := 21) (oi := ?o21) (v := ?v21) ?e21 ?a21 ?b21 ?c21 ?q21 (Or.inl ⟨?w21, ?h21⟩) ?s21 ?r21
        case e21 => (simp only [List.getElem?_toArray, List.getElem?_cons_zero, List.getElem?_cons_succ]; rfl)
        case a21 => kernel_rfl
        case b21 => kernel_rfl
        case c21 => kernel_rfl
        case q21 => exact fun _ _ _ h => h
        case w21 => rfl
        case s21 => assumption
        case h21 => (intro W hSw; have hS0 := hSw; go_simp; try with_reducible rfl)
        try simp only [Act.put, List.setIfInBounds_toArray, List.set_cons_zero, List.set_cons_succ]
        refine wpAnyH_take (i := 22) (oi := ?o22) (v := ?v22) ?e22 ?a22 ?b22 ?c22 ?q22 (Or.inl ⟨?w22, ?h22⟩) ?s22 ?r22
        case e22 => (simp only [List.getElem?_toArray, List.getElem?_cons_zero, List.getElem?_cons_succ]; rfl)
        case a22 => kernel_rfl
        case b22 => kernel_rfl
        case c22 => kernel_rfl
        case q22 => exact fun _ _ _ h => h
        case w22 => rfl
        case s22 => assumption
        case h22 => (intro W hSw; have hS0 := hSw; go_simp; try with_reducible rfl)
        try simp only [Act.put, List.setIfInBounds_toArray, List.set_cons_zero, List.set_cons_succ]
        refine wpAnyH_take (i := 23) (oi := ?o23) (v := ?v23) ?e23 ?a23 ?b23 ?c23 ?q23 (Or.inl ⟨?w23, ?h23⟩) ?s23 ?r23
        case e23 => (simp only [List.getElem?_toArray, List.getElem?_cons_zero, List.getElem?_cons_succ]; rfl)
        case a23 => kernel_rfl
        case b23 => kernel_rfl
        case c23 => kernel_rfl
        case q23 => exact fun _ _ _ h => h
        case w23 => rfl
        case s23 => assumption
        case h23 => (intro W hSw; have hS0 := hSw; go_simp; try with_reducible rfl)
        try simp only [Act.put, List.setIfInBounds_toArray, List.set_cons_zero, List.set_cons_succ]
        refine wpAnyH_take (i := 25) (oi := ?o25) (v := ?v25) ?e25 ?a25 ?b25 ?c25 ?q25 (Or.inl ⟨?w25, ?h25⟩) ?s25 ?r25
        case e25 => (simp only [List.getElem?_toArray, List.getElem?_cons_zero, List.getElem?_cons_succ]; rfl)
        case a25 => kernel_rfl
        case b25 => kernel_rfl
        case c25 => kernel_rfl
        case q25 => exact fun _ _ _ h => h
        case w25 => rfl
        case s25 => assumption
        case h25 => (intro W hSw; have hS0 := hSw; go_simp; try with_reducible rfl)
        try simp only [Act.put, List.setIfInBounds_toArray, List.set_cons_zero, List.set_cons_succ]
        refine wpAnyH_ready (rs := [24]) (by kernel_rfl) (by simp) (AllReadyH.cons (o := ?o24) ?e24 (fun K hK => ?k24) AllReadyH.nil)
        case e24 => (simp only [List.getElem?_toArray, List.getElem?_cons_zero, List.getElem?_cons_succ]; rfl)
        go_simp
        (with_reducible refine (HFL.out _ HK7.out.no).mono ?_)
        rintro e w8 ⟨rfl, hw8⟩
        rw [hw8]
        clear hw8 w8
        go_wp2_with fail
        refine hK.out _ _ hH7 (fun _ => ?_)
        clear hK K
        try simp only [Act.put, List.setIfInBounds_toArray, List.set_cons_zero, List.set_cons_succ]
        refine wpAnyH_ready (rs := [26]) (by kernel_rfl) (by simp) (AllReadyH.cons (o := ?o26) ?e26 (fun K hK => ?k26) AllReadyH.nil)
        case e26 => (simp only [List.getElem?_toArray, List.getElem?_cons_zero, List.getElem?_cons_succ]; rfl)
        go_simp
        (with_reducible refine (HFR.out _ HK7.out.rb).mono ?_)
        rintro e w8 ⟨rfl, n8, rfl⟩
        have HK8 := Lib.hid (HK7.out.go (bdrN w7 n8))
        have hH8 : (fun V => V.cell? ⟨d, 0, none⟩ = some (.slice aA nl cA)) (w7.drewN n8) := hH7
        go_wp2_with fail
        refine hK.out _ _ hH8 (fun _ => ?_)
        clear hK K
        try simp only [Act.put, List.setIfInBounds_toArray, List.set_cons_zero, List.set_cons_succ]
        clear hH7 HK7
        refine wpAnyH_take (i := 27) (oi := ?o27) (v := ?v27) ?e27 ?a27 ?b27 ?c27 ?q27 (Or.inl ⟨?w27, ?h27⟩) ?s27 ?r27
        case e27 => (simp only [List.getElem?_toArray, List.getElem?_cons_zero, List.getElem?_cons_succ]; rfl)
        case a27 => kernel_rfl
        case b27 => kernel_rfl
        case c27 => kernel_rfl
        case q27 => exact fun _ _ _ h => h
        case w27 => rfl
        case s27 => assumption
        case h27 => (intro W hSw; have hS0 := hSw; go_simp; try with_reducible rfl)
        try simp only [Act.put, List.setIfInBounds_toArray, List.set_cons_zero, List.set_cons_succ]
        refine wpAnyH_take (i := 28) (oi := ?o28) (v := ?v28) ?e28 ?a28 ?b28 ?c28 ?q28 (Or.inl ⟨?w28, ?h28⟩) ?s28 ?r28
        case e28 => (simp only [List.getElem?_toArray, List.getElem?_cons_zero, List.getElem?_cons_succ]; rfl)
        case a28 => kernel_rfl
        case b28 => kernel_rfl
        case c28 => kernel_rfl
        case q28 => exact fun _ _ _ h => h
        case w28 => rfl
        case s28 => assumption
        case h28 => (intro W hSw; have hS0 := hSw; go_simp; try with_reducible rfl)
        try simp only [Act.put, List.setIfInBounds_toArray, List.set_cons_zero, List.set_cons_succ]
        refine wpAnyH_take (i := 29) (oi := ?o29) (v := ?v29) ?e29 ?a29 ?b29 ?c29 ?q29 (Or.inl ⟨?w29, ?h29⟩) ?s29 ?r29
        case e29 => (simp only [List.getElem?_toArray, List.getElem?_cons_zero, List.getElem?_cons_succ]; rfl)
        case a29 => kernel_rfl
        case b29 => kernel_rfl
        case c29 => kernel_rfl
        case q29 => exact fun _ _ _ h => h
        case w29 => rfl
        case s29 => assumption
        case h29 => (intro W hSw; have hS0 := hSw; go_simp; try with_reducible rfl)
        try simp only [Act.put, List.setIfInBounds_toArray, List.set_cons_zero, List.set_cons_succ]
        refine wpAnyH_take (i := 30) (oi := ?o30) (v := ?v30) ?e30 ?a30 ?b30 ?c30 ?q30 (Or.inl ⟨?w30, ?h30⟩) ?s30 ?r30
        case e30 => (simp only [List.getElem?_toArray, List.getElem?_cons_zero, List.getElem?_cons_succ]; rfl)
        case a30 => kernel_rfl
        case b30 => kernel_rfl
        case c30 => kernel_rfl
        case q30 => exact fun _ _ _ h => h
        case w30 => rfl
        case s30 => assumption
        case h30 => (intro W hSw; have hS0 := hSw; go_simp; try with_reducible rfl)
        try simp only [Act.put, List.setIfInBounds_toArray, List.set_cons_zero, List.set_cons_succ]
        refine wpAnyH_take (i := 32) (oi := ?o32) (v := ?v32) ?e32 ?a32 ?b32 ?c32 ?q32 (Or.inl ⟨?w32, ?h32⟩) ?s32 ?r32
        case e32 => (simp only [List.getElem?_toArray, List.getElem?_cons_zero, List.getElem?_cons_succ]; rfl)
        case a32 => kernel_rfl
        case b32 => kernel_rfl
        case c32 => kernel_rfl
        case q32 => exact fun _ _ _ h => h
        case w32 => rfl
        case s32 => assumption
        case h32 => (intro W hSw; have hS0 := hSw; go_simp; try with_reducible rfl)
        try simp only [Act.put, List.setIfInBounds_toArray, List.set_cons_zero, List.set_cons_succ]
        refine wpAnyH_take (i := 34) (oi := ?o34) (v := ?v34) ?e34 ?a34 ?b34 ?c34 ?q34 (Or.inl ⟨?w34, ?h34⟩) ?s34 ?r34
        case e34 => (simp only [List.getElem?_toArray, List.getElem?_cons_zero, List.getElem?_cons_succ]; rfl)
        case a34 => kernel_rfl
        case b34 => kernel_rfl
        case c34 => kernel_rfl
        case q34 => exact fun _ _ _ h => h
        case w34 => rfl
        case s34 => assumption
        case h34 => (intro W hSw; have hS0 := hSw; go_simp; try with_reducible rfl)
        try simp only [Act.put, List.setIfInBounds_toArray, List.set_cons_zero, List.set_cons_succ]
        refine wpAnyH_ready (rs := [31]) (by kernel_rfl) (by simp) (AllReadyH.cons (o := ?o31) ?e31 (fun K hK => ?k31) AllReadyH.nil)
        case e31 => (simp only [List.getElem?_toArray, List.getElem?_cons_zero, List.getElem?_cons_succ]; rfl)
        go_simp
        (with_reducible refine (HLN.out _ HK8.out.no).mono ?_)
        rintro e w8 ⟨rfl, hw8⟩
        rw [hw8]
        clear hw8 w8
        go_wp2_with fail
        refine hK.out _ _ hH8 (fun _ => ?_)
        clear hK K
        try simp only [Act.put, List.setIfInBounds_toArray, List.set_cons_zero, List.set_cons_succ]
        refine wpAnyH_ready (rs := [33]) (by kernel_rfl) (by simp) (AllReadyH.cons (o := ?o33) ?e33 (fun K hK => ?k33) AllReadyH.nil)
        case e33 => (simp only [List.getElem?_toArray, List.getElem?_cons_zero, List.getElem?_cons_succ]; rfl)
        go_simp
        (with_reducible refine (HLA.out _ HK8.out.no).mono ?_)
        rintro e w8 ⟨rfl, hw8⟩
        rw [hw8]
        clear hw8 w8
        go_wp2_with fail
        refine hK.out _ _ hH8 (fun _ => ?_)
        clear hK K
        try simp only [Act.put, List.setIfInBounds_toArray, List.set_cons_zero, List.set_cons_succ]
        refine wpAnyH_ready (rs := [35]) (by kernel_rfl) (by simp) (AllReadyH.cons (o := ?o35) ?e35 (fun K hK => ?k35) AllReadyH.nil)
        case e35 => (simp only [List.getElem?_toArray, List.getElem?_cons_zero, List.getElem?_cons_succ]; rfl)
        go_simp
        (with_reducible refine (HFL.out _ HK8.out.no).mono ?_)
        rintro e w8 ⟨rfl, hw8⟩
        rw [hw8]
        clear hw8 w8
        go_wp2_with fail
        refine hK.out _ _ hH8 (fun _ => ?_)
        clear hK K
        try simp only [Act.put, List.setIfInBounds_toArray, List.set_cons_zero, List.set_cons_succ]
        refine wpAnyH_take (i := 36) (oi := ?o36) (v := ?v36) ?e36 ?a36 ?b36 ?c36 ?q36 (Or.inl ⟨?w36, ?h36⟩) ?s36 ?r36
        case e36 => (simp only [List.getElem?_toArray, List.getElem?_cons_zero, List.getElem?_cons_succ]; rfl)
        case a36 => kernel_rfl
        case b36 => kernel_rfl
        case c36 => kernel_rfl
        case q36 => exact fun _ _ _ h => h
        case w36 => rfl
        case s36 => assumption
        case h36 => (intro W hSw; have hS0 := hSw; go_simp; try with_reducible rfl)
        try simp only [Act.put, List.setIfInBounds_toArray, List.set_cons_zero, List.set_cons_succ]
        refine wpAnyH_take (i := 37) (oi := ?o37) (v := ?v37) ?e37 ?a37 ?b37 ?c37 ?q37 (Or.inl ⟨?w37, ?h37⟩) ?s37 ?r37
        case e37 => (simp only [List.getElem?_toArray, List.getElem?_cons_zero, List.getElem?_cons_succ]; rfl)
        case a37 => kernel_rfl
        case b37 => kernel_rfl
        case c37 => kernel_rfl
        case q37 => exact fun _ _ _ h => h
        case w37 => rfl
        case s37 => assumption
        case h37 => (intro W hSw; have hS0 := hSw; go_simp; try with_reducible rfl)
        try simp only [Act.put, List.setIfInBounds_toArray, List.set_cons_zero, List.set_cons_succ]
        refine wpAnyH_take (i := 38) (oi := ?o38) (v := ?v38) ?e38 ?a38 ?b38 ?c38 ?q38 (Or.inl ⟨?w38, ?h38⟩) ?s38 ?r38
        case e38 => (simp only [List.getElem?_toArray, List.getElem?_cons_zero, List.getElem?_cons_succ]; rfl)
        case a38 => kernel_rfl
        case b38 => kernel_rfl
        case c38 => kernel_rfl
        case q38 => exact fun _ _ _ h => h
        case w38 => rfl
        case s38 => assumption
        case h38 => (intro W hSw; have hS0 := hSw; go_simp; try with_reducible rfl)
        try simp only [Act.put, List.setIfInBounds_toArray, List.set_cons_zero, List.set_cons_succ]
        refine wpAnyH_done (by kernel_rfl) ?_ _
        go_wp2_with fail
        (with_reducible refine (Firing_c HK8.out.no (nowL_asc ls (j + 1))).mono ?_)
        rintro e w9 ⟨v9, rfl, hr9, hb9⟩
        have HK9 := Lib.hid (HK8.out.go hb9)
        have HR9 := Lib.hid hr9
        obtain ⟨a9, c9, rfl, _⟩ := hr9
        obtain ⟨vB, vM, hvB, _, _, hoM, _⟩ := HK9.out.rb.ex
        obtain ⟨aM, cM, rfl, _, _⟩ := hoM.form
        have HM9 := Lib.hid hoM.rd
        have HC2 := Lib.hid (cells3 hvB).2.2
        have HDL9 := Lib.hid HK9.out.rb.lt
        have hm2 := HC2.out
        have hnl := nowL_len ls (j + 1)
        clear hb9 hvB hoM HK8 HLA HFL HLN HFR hH8 HVA HDL l0 l1 l2 l3
        go_wp2
        clear hm2
        obtain ⟨wo, hwo⟩ : ∃ wo, wo = w9 := ⟨_, rfl⟩
        subst hwo
        go_loopw [84] (fun kv wz => ∃ (k : Nat), k ≤ (nowL ls (j + 1)).length ∧ kv = .int .i64 k ∧ Hid (Below wo.heap.size wo wz)) (fun kv _ => 9 - (intOf kv).toNat)
        case atStart => exact ⟨0, by omega, rfl, Lib.hid (Below.refl _ _)⟩
        case round =>
          obtain ⟨k, hk, rfl, HBZ⟩ := hrel
          by_cases hkl : k < (nowL ls (j + 1)).length
          · obtain ⟨q1, o1, rfl, hq1, hat1⟩ := (HR9.out.go HBZ.out).at (by omega)
            obtain ⟨q2, o2, rfl, hq2, hat2⟩ := (HM9.out.go HBZ.out).at (by omega)
            have x1 := cellT hat1 hkl
            have x2 := cellT hat2 hkl
            have x3 := (HBZ.out.cell (p := ⟨d, 2, none⟩) HDL9.out).trans HC2.out
            have hk0 : (0 : Int) ≤ (k : Int) := by omega
            have hkl' : (k : Int) < ((nowL ls (j + 1)).length : Int) := by omega
            have HB9 : Hid (∀ n, Below wo.heap.size wo (wr.drewN n)) := fun n => HBZ.out.trans ((bdrN wr n).mono HBZ.out.size)
            clear hat1 hat2
            generalize (nowL ls (j + 1))[k] = y at *
            go_upto_region 15 with (fail)
            go_quiet (fail)
            go_wp2_with fail
            go_roundw
            case rel => exact ⟨k + 1, by omega, by go_num, Lib.hid (HB9.out _)⟩
            case measure => simp [intOf]; omega
          · have hkl' : ¬ (k : Int) < ((nowL ls (j + 1)).length : Int) := by omega
            have HK10 := Lib.hid (HK9.out.go HBZ.out)
            clear HR9 HM9 HC2 HK9 HBZ
            go_wp2
            go_roundw
            case rel => exact ⟨j + 1, _, _, _, _, by omega, by omega, by go_num, HK10⟩
            case measure => simp [intOf]; omega
    · have hjl : ¬ (j : Int) < (ls.length : Int) := by omega
      have HS1 := Lib.hid (Since_n HK.out.no (by omega) seq)
      have hsl := sinL_len (allL (fun k => (k : Int) + 1) ls j) (max m 1) seq
      have HS2 : Hid (∀ V, Below wr.heap.size wr V → Calls Try.prog 18 #[.pointer (some ⟨d, 0, none⟩), .int .i64 seq] V (SiQ (allL (fun k => (k : Int) + 1) ls j) (max m 1) seq V)) := fun V hV => Since_rr (HK.out.rb.go hV) (by omega) (by omega) seq
      have HBW : Hid (Below w.heap.size w wr) := HK.out.bel
      clear HK
      unfold SiQ at HS1 HS2
      revert HS1 HS2 hsl
      generalize sinL (allL (fun k => (k : Int) + 1) ls j) (max m 1) seq = sl
      generalize sinZ (allL (fun k => (k : Int) + 1) ls j) (max m 1) seq = sz
      intro HS1 hsl HS2
      go_wp2_with fail
      (with_reducible refine HS1.out.mono ?_)
      rintro e w5 ⟨v5, rfl, hr5, hb5⟩
      have HR5 := Lib.hid hr5
      have HB5 := Lib.hid hb5
      have HP := Lib.hid (HS2.out w5 hb5)
      clear hr5 hb5 HS1 HS2
      go_wp2_with fail
      (with_reducible refine HP.out.mono ?_)
      rintro e w6 ⟨v6, rfl, hr6, hb6⟩
      have HSM := Lib.hid (Same_c (HR5.out.go hb6) hr6 (by omega))
      have HB6 : Hid (Below w.heap.size w w6) := (HBW.out.trans (HB5.out.mono HBW.out.size)).trans (hb6.mono (HBW.out.trans (HB5.out.mono HBW.out.size)).size)
      clear hr6 hb6 HP HB5 HR5 HBW
      go_wp2_with fail
      (with_reducible refine HSM.out.mono ?_)
      rintro e w7 ⟨rfl, hb7⟩
      have HB7 : Hid (Below w.heap.size w w7) := HB6.out.trans (hb7.mono HB6.out.size)
      clear hb7 HB6 HSM
      go_wp2_with fail
      refine (awake_c w7).mono ?_
      rintro e w8 ⟨rfl, hb8⟩
      have HB8 : Hid (Below w.heap.size w w8) := HB7.out.trans (hb8.mono HB7.out.size)
      clear hb8 HB7
      go_wp2
      go_ret
      exact ⟨rfl, HB8.out⟩
end Go.Proofs.Ytneogelhdikcaaa.Nt
