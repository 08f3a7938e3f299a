/-
  For any number, Put of package utf is as the document's own answer, and means that rune, and the chapter's example holds; where the two tables hold what the program's own text lays (the card ties it).
-/
import Derived.Test.YthepijohllemdaaDoorCards
import Derived.Test.YthepijohllemdaaDoorTie
import Derived.Test.YthepijohllemdaaDoorLaid
import Derived.ShutString
import Derived.ChangeOld
import Derived.SevenTiedAt
import Derived.Test.YthepijohllemdaaDoorPut
import Derived.Deep.RegionHeld3
namespace Go.Proofs.YthepijohllemdaaDoor.utfPut
open Go.ChangeShapes Go.WideShapes Go.ChangeAt Go.RowKit
open Go.ChangeMaps (open_string shut_string)
set_option linter.unusedVariables false
set_option linter.unusedSimpArgs false

theorem own : ownKnob Tryd.prog.godebug = none := by kernel_rfl
theorem laidOut : laidOutB Tryd.prog = true := by kernel_rfl

theorem bounds_i32 {n : Int} (h : (Lit.int .i32 n).wf = true) : -2147483648 ≤ n ∧ n ≤ 2147483647 := by
  simp [Lit.wf, IntKind.min, IntKind.max, IntKind.signed, IntKind.bits] at h
  omega
theorem val_put (v : Int) : valT (putI v) (putI v).length = v := by
  unfold putI
  split
  · simp [valT, gd]
  · split
    · simp [valT, gd]; omega
    · split
      · simp [valT, gd]; omega
      · simp [valT, gd]; omega
theorem next_put (v : Int) (h : isR v = true) : nextE (putI v) = tup3 v (putI v).length 0 := by
  have hl := putI_len v
  have hy := putI_byt v h
  have hz : putI v ≠ [] := fun e => by rw [e] at hl; simp at hl
  have he : encOK (putI v) (putI v).length := by unfold encOK; rw [val_put, List.take_of_length_le (Nat.le_refl _)]; exact ⟨h, rfl⟩
  have hh := nextW_hit hy hl.1 hl.2 (Nat.le_refl _) he
  rw [val_put] at hh
  unfold nextW at hh
  rw [if_neg hz] at hh
  unfold nextE
  rw [if_neg hz, hh]
  show (if (((putI v).length : Nat) : Int) = -1 then tup3 0 0 11 else if (((putI v).length : Nat) : Int) = 0 then tup3 0 0 3 else tup3 v (putI v).length 0) = _
  rw [if_neg (show ¬ (((putI v).length : Nat) : Int) = -1 by omega), if_neg (show ¬ (((putI v).length : Nat) : Int) = 0 by omega)]

theorem wpAnyH_imp {P : Program} {md : Region.Mode} {ops : Array Oper} {Q : Exit → Act → World → Prop} {S S' : World → Prop} (h : ∀ W, S' W → S W) : ∀ (fuel : Nat) (listed : Array Bool) (a : Act) (w : World), wpAnyH P md ops Q S' fuel listed a w → wpAnyH P md ops Q S fuel listed a w
  | 0, _, _, _, hh => hh
  | fuel + 1, _, _, _, hh => ⟨hh.1, fun i hi => wpOp_mono (fun a' w' h' => ⟨h _ h'.1, wpAnyH_imp h fuel _ a' w' h'.2⟩) (hh.2 i hi)⟩

set_option maxHeartbeats 4000000 in
theorem walk (a0 : Int) (w0 : (Lit.int .i32 a0).wf = true) (w : World) (hT : Tabs w) :
    Calls Tryd.prog 4 #[.int .i32 a0] w fun e w' => e = .returned (.bool true) ∧ Below w.heap.size w w' := by
  obtain ⟨b00, b01⟩ := bounds_i32 w0
  clear w0
  have HT := Lib.hid hT
  cases hr : isR a0 with
  | false =>
    have HP := Lib.hid (put_no a0 w hr)
    have HI := Lib.hid (is_r a0 w)
    rw [hr] at HI
    have HA := Lib.hid (awake_c w hT)
    clear hr hT
    go_enter Tryd.func4, Tryd.ntmps4
    go_wp2_with (first | (go_at_call 10; refine HP.out.mono ?_; rintro e w' ⟨rfl, rfl⟩) | (go_at_call 11; refine HI.out.mono ?_; rintro e w' ⟨rfl, rfl⟩) | (go_at_call 9; refine HA.out.mono ?_; rintro e wz ⟨rfl, hbz⟩; have HBZ := Lib.hid hbz; clear hbz))
    go_ret
    exact ⟨rfl, HBZ.out⟩
  | true =>
    have HP := Lib.hid (put_c a0 w hT hr)
    have HI : Hid (∀ W : World, Calls Tryd.prog 11 #[.int .i64 a0] W fun e w' => e = .returned (.bool true) ∧ W = w') := fun W => by have h := is_r a0 W; rw [hr] at h; exact h
    have HRP : Hid (∀ W : World, Calls Tryd.prog 12 #[.int .i64 a0] W (New (putI a0) W)) := fun W => put_r a0 W hr
    have HY := Lib.hid (putI_byt a0 hr)
    have HN := Lib.hid (next_put a0 hr)
    have hl4 : (putI a0).length ≤ 4 := (putI_len a0).2
    clear hr hT
    revert HP HRP HY HN hl4
    generalize putI a0 = pv
    intro HP HRP HY HN hl4
    go_enter Tryd.func4, Tryd.ntmps4
    go_wp2_with fail
    refine HP.out.mono ?_
    rintro e w1 ⟨g, cap, rfl, hc, hm, hg, hb, hbl⟩
    have B1 := Lib.hid hbl
    have T1 := Lib.hid (HT.out.go hbl)
    have G1 := Lib.hid hg
    have S1 := Lib.hid hb
    have HNX := Lib.hid (next_c (some ⟨g, 0, none⟩) pv.length cap pv w1 T1.out (fun _ => ⟨g, 0, rfl, hg, hb⟩) HY.out rfl hc hm)
    rw [HN.out] at HNX
    simp only [tup3] at HNX
    clear hb hbl hg HP HN
    go_wp2_with (first | (go_at_call 11; refine (HI.out _).mono ?_; rintro e w' ⟨rfl, rfl⟩) | (go_at_call 7; refine HNX.out.mono ?_; rintro e w2 ⟨rfl, hb2⟩))
    have B2 : Hid (Below w.heap.size w w2) := B1.out.trans (hb2.mono B1.out.size)
    have T2 : Hid (Tabs w2.drew) := (T1.out.go hb2).drew
    have S2 : Hid (Bts w2.drew g 0 pv) := S1.out.below hb2.drew G1.out
    have G2 : Hid (g < w2.drew.heap.size) := Nat.lt_of_lt_of_le G1.out hb2.size
    clear hb2 HNX HI
    have hcvS : ∀ W : World, Bts W g 0 pv → (convert 22 9 (.slice (some ⟨g, 0, none⟩) pv.length cap)).run Tryd.prog W = .ok (.string (strOfNums pv)) W := fun W h => conv_str h rfl
    have hwr : IntKind.i64.wrap a0 = a0 := IntWalk.i64_in _ (by omega)
    refine wp_region_noPanic ?_
    refine wp_region_held_drew (S := fun W => Bts W g 0 pv) (by kernel_rfl) S2.out (fun hHeld => ?_)
    refine wpAnyH_take (i := 0) (oi := ?o0) (v := ?v0) ?e0 ?a0 ?b0 ?c0 ?q0 (Or.inl ⟨?w0, ?h0⟩) ?s0 ?r0
    case e0 => (simp only [List.getElem?_toArray, List.getElem?_cons_zero, List.getElem?_cons_succ]; rfl)
    case a0 => kernel_rfl
    case b0 => kernel_rfl
    case c0 => kernel_rfl
    case q0 => exact fun _ _ _ h => h
    case w0 => rfl
    case s0 => assumption
    case h0 => (intro W hSw; go_simp; try with_reducible rfl)
    try simp only [Act.put, List.setIfInBounds_toArray, List.set_cons_zero, List.set_cons_succ]
    refine wpAnyH_take (i := 1) (oi := ?o1) (v := ?v1) ?e1 ?a1 ?b1 ?c1 ?q1 (Or.inl ⟨?w1, ?h1⟩) ?s1 ?r1
    case e1 => (simp only [List.getElem?_toArray, List.getElem?_cons_zero, List.getElem?_cons_succ]; rfl)
    case a1 => kernel_rfl
    case b1 => kernel_rfl
    case c1 => kernel_rfl
    case q1 => exact fun _ _ _ h => h
    case w1 => rfl
    case s1 => assumption
    case h1 => (intro W hSw; go_simp; try with_reducible rfl)
    try simp only [Act.put, List.setIfInBounds_toArray, List.set_cons_zero, List.set_cons_succ]
    refine wpAnyH_take (i := 2) (oi := ?o2) (v := ?v2) ?e2 ?a2 ?b2 ?c2 ?q2 (Or.inl ⟨?w2, ?h2⟩) ?s2 ?r2
    case e2 => (simp only [List.getElem?_toArray, List.getElem?_cons_zero, List.getElem?_cons_succ]; rfl)
    case a2 => kernel_rfl
    case b2 => kernel_rfl
    case c2 => kernel_rfl
    case q2 => exact fun _ _ _ h => h
    case w2 => rfl
    case s2 => assumption
    case h2 => (intro W hSw; go_simp; try with_reducible rfl)
    try simp only [Act.put, List.setIfInBounds_toArray, List.set_cons_zero, List.set_cons_succ]
    refine wpAnyH_take (i := 3) (oi := ?o3) (v := ?v3) ?e3 ?a3 ?b3 ?c3 ?q3 (Or.inl ⟨?w3, ?h3⟩) ?s3 ?r3
    case e3 => (simp only [List.getElem?_toArray, List.getElem?_cons_zero, List.getElem?_cons_succ]; rfl)
    case a3 => kernel_rfl
    case b3 => kernel_rfl
    case c3 => kernel_rfl
    case q3 => exact fun _ _ _ h => h
    case w3 => rfl
    case s3 => assumption
    case h3 => (intro W hSw; go_simp; try with_reducible rfl)
    try simp only [Act.put, List.setIfInBounds_toArray, List.set_cons_zero, List.set_cons_succ]
    refine wpAnyH_take (i := 4) (oi := ?o4) (v := ?v4) ?e4 ?a4 ?b4 ?c4 ?q4 (Or.inl ⟨?w4, ?h4⟩) ?s4 ?r4
    case e4 => (simp only [List.getElem?_toArray, List.getElem?_cons_zero, List.getElem?_cons_succ]; rfl)
    case a4 => kernel_rfl
    case b4 => kernel_rfl
    case c4 => kernel_rfl
    case q4 => exact fun _ _ _ h => h
    case w4 => rfl
    case s4 => assumption
    case h4 => (intro W hSw; go_simp; try with_reducible rfl)
    try simp only [Act.put, List.setIfInBounds_toArray, List.set_cons_zero, List.set_cons_succ]
    refine wpAnyH_take (i := 5) (oi := ?o5) (v := ?v5) ?e5 ?a5 ?b5 ?c5 ?q5 (Or.inl ⟨?w5, ?h5⟩) ?s5 ?r5
    case e5 => (simp only [List.getElem?_toArray, List.getElem?_cons_zero, List.getElem?_cons_succ]; rfl)
    case a5 => kernel_rfl
    case b5 => kernel_rfl
    case c5 => kernel_rfl
    case q5 => exact fun _ _ _ h => h
    case w5 => rfl
    case s5 => assumption
    case h5 => (intro W hSw; go_simp; try with_reducible rfl)
    try simp only [Act.put, List.setIfInBounds_toArray, List.set_cons_zero, List.set_cons_succ]
    refine wpAnyH_take (i := 6) (oi := ?o6) (v := ?v6) ?e6 ?a6 ?b6 ?c6 ?q6 (Or.inl ⟨?w6, ?h6⟩) ?s6 ?r6
    case e6 => (simp only [List.getElem?_toArray, List.getElem?_cons_zero, List.getElem?_cons_succ]; rfl)
    case a6 => kernel_rfl
    case b6 => kernel_rfl
    case c6 => kernel_rfl
    case q6 => exact fun _ _ _ h => h
    case w6 => rfl
    case s6 => assumption
    case h6 => (intro W hSw; go_simp; try with_reducible rfl)
    try simp only [Act.put, List.setIfInBounds_toArray, List.set_cons_zero, List.set_cons_succ]
    refine wpAnyH_ready (rs := [7]) (by kernel_rfl) (by simp) (AllReadyH.cons (o := ?o7) ?e7 (fun K hK => ?k7) AllReadyH.nil)
    case e7 => (simp only [List.getElem?_toArray, List.getElem?_cons_zero, List.getElem?_cons_succ]; rfl)
    go_simp
    refine (HRP.out _).mono ?_
    rintro e w3 ⟨gp, cp, rfl, hcp, hcm, hgp, hbp, hbl⟩
    have hSg : Bts w3 g 0 pv := S2.out.below hbl G2.out
    have T3 := Lib.hid (T2.out.go hbl)
    have B3 : Hid (Below w.heap.size w w3) := B2.out.trans ((Below.drew (Below.refl _ _)).trans (hbl.mono B2.out.size))
    have G3 : Hid (g < w3.heap.size ∧ gp < w3.heap.size) := ⟨Nat.lt_of_lt_of_le G2.out hbl.size, hgp⟩
    clear hbl hgp
    go_wp2_with fail
    refine hK.out _ _ hSg (fun _ => ?_)
    clear hK K
    try simp only [Act.put, List.setIfInBounds_toArray, List.set_cons_zero, List.set_cons_succ]
    refine wpAnyH_imp (S' := fun W => Bts W g 0 pv ∧ Bts W gp 0 pv) (fun W h => h.1) _ _ _ _ ?_
    have hHeld3 : (fun W => Bts W g 0 pv ∧ Bts W gp 0 pv) w3 := ⟨hSg, hbp⟩
    have S3 := Lib.hid hHeld3
    have hcvP : ∀ W : World, Bts W gp 0 pv → (convert 22 9 (.slice (some ⟨gp, 0, none⟩) pv.length cp)).run Tryd.prog W = .ok (.string (strOfNums pv)) W := fun W h => conv_str h rfl
    clear hSg hbp hHeld
    refine wpAnyH_take (i := 8) (oi := ?o8) (v := ?v8) ?e8 ?a8 ?b8 ?c8 ?q8 (Or.inl ⟨?w8, ?h8⟩) ?s8 ?r8
    case e8 => (simp only [List.getElem?_toArray, List.getElem?_cons_zero, List.getElem?_cons_succ]; rfl)
    case a8 => kernel_rfl
    case b8 => kernel_rfl
    case c8 => kernel_rfl
    case q8 => exact fun _ _ _ h => h
    case w8 => rfl
    case s8 => assumption
    case h8 => (intro W hSw; obtain ⟨hSa, hSb⟩ := hSw; go_simp; try with_reducible rfl)
    try simp only [Act.put, List.setIfInBounds_toArray, List.set_cons_zero, List.set_cons_succ]
    refine wpAnyH_take (i := 9) (oi := ?o9) (v := ?v9) ?e9 ?a9 ?b9 ?c9 ?q9 (Or.inl ⟨?w9, ?h9⟩) ?s9 ?r9
    case e9 => (simp only [List.getElem?_toArray, List.getElem?_cons_zero, List.getElem?_cons_succ]; rfl)
    case a9 => kernel_rfl
    case b9 => kernel_rfl
    case c9 => kernel_rfl
    case q9 => exact fun _ _ _ h => h
    case w9 => rfl
    case s9 => assumption
    case h9 => (intro W hSw; obtain ⟨hSa, hSb⟩ := hSw; go_simp; try with_reducible rfl)
    try simp only [Act.put, List.setIfInBounds_toArray, List.set_cons_zero, List.set_cons_succ]
    refine wpAnyH_take (i := 10) (oi := ?o10) (v := ?v10) ?e10 ?a10 ?b10 ?c10 ?q10 (Or.inl ⟨?w10, ?h10⟩) ?s10 ?r10
    case e10 => (simp only [List.getElem?_toArray, List.getElem?_cons_zero, List.getElem?_cons_succ]; rfl)
    case a10 => kernel_rfl
    case b10 => kernel_rfl
    case c10 => kernel_rfl
    case q10 => exact fun _ _ _ h => h
    case w10 => rfl
    case s10 => assumption
    case h10 => (intro W hSw; obtain ⟨hSa, hSb⟩ := hSw; go_simp; try with_reducible rfl)
    try simp only [Act.put, List.setIfInBounds_toArray, List.set_cons_zero, List.set_cons_succ]
    refine wpAnyH_take (i := 11) (oi := ?o11) (v := ?v11) ?e11 ?a11 ?b11 ?c11 ?q11 (Or.inl ⟨?w11, ?h11⟩) ?s11 ?r11
    case e11 => (simp only [List.getElem?_toArray, List.getElem?_cons_zero, List.getElem?_cons_succ]; rfl)
    case a11 => kernel_rfl
    case b11 => kernel_rfl
    case c11 => kernel_rfl
    case q11 => exact fun _ _ _ h => h
    case w11 => rfl
    case s11 => assumption
    case h11 => (intro W hSw; obtain ⟨hSa, hSb⟩ := hSw; go_simp; try with_reducible rfl)
    try simp only [Act.put, List.setIfInBounds_toArray, List.set_cons_zero, List.set_cons_succ]
    refine wpAnyH_take (i := 12) (oi := ?o12) (v := ?v12) ?e12 ?a12 ?b12 ?c12 ?q12 (Or.inl ⟨?w12, ?h12⟩) ?s12 ?r12
    case e12 => (simp only [List.getElem?_toArray, List.getElem?_cons_zero, List.getElem?_cons_succ]; rfl)
    case a12 => kernel_rfl
    case b12 => kernel_rfl
    case c12 => kernel_rfl
    case q12 => exact fun _ _ _ h => h
    case w12 => rfl
    case s12 => assumption
    case h12 => (intro W hSw; obtain ⟨hSa, hSb⟩ := hSw; go_simp; try with_reducible rfl)
    try simp only [Act.put, List.setIfInBounds_toArray, List.set_cons_zero, List.set_cons_succ]
    refine wpAnyH_take (i := 13) (oi := ?o13) (v := ?v13) ?e13 ?a13 ?b13 ?c13 ?q13 (Or.inl ⟨?w13, ?h13⟩) ?s13 ?r13
    case e13 => (simp only [List.getElem?_toArray, List.getElem?_cons_zero, List.getElem?_cons_succ]; rfl)
    case a13 => kernel_rfl
    case b13 => kernel_rfl
    case c13 => kernel_rfl
    case q13 => exact fun _ _ _ h => h
    case w13 => rfl
    case s13 => assumption
    case h13 => (intro W hSw; obtain ⟨hSa, hSb⟩ := hSw; go_simp; try with_reducible rfl)
    try simp only [Act.put, List.setIfInBounds_toArray, List.set_cons_zero, List.set_cons_succ]
    refine wpAnyH_take (i := 14) (oi := ?o14) (v := ?v14) ?e14 ?a14 ?b14 ?c14 ?q14 (Or.inl ⟨?w14, ?h14⟩) ?s14 ?r14
    case e14 => (simp only [List.getElem?_toArray, List.getElem?_cons_zero, List.getElem?_cons_succ]; rfl)
    case a14 => kernel_rfl
    case b14 => kernel_rfl
    case c14 => kernel_rfl
    case q14 => exact fun _ _ _ h => h
    case w14 => rfl
    case s14 => assumption
    case h14 => (intro W hSw; obtain ⟨hSa, hSb⟩ := hSw; go_simp; try with_reducible rfl)
    try simp only [Act.put, List.setIfInBounds_toArray, List.set_cons_zero, List.set_cons_succ]
    refine wpAnyH_take (i := 15) (oi := ?o15) (v := ?v15) ?e15 ?a15 ?b15 ?c15 ?q15 (Or.inl ⟨?w15, ?h15⟩) ?s15 ?r15
    case e15 => (simp only [List.getElem?_toArray, List.getElem?_cons_zero, List.getElem?_cons_succ]; rfl)
    case a15 => kernel_rfl
    case b15 => kernel_rfl
    case c15 => kernel_rfl
    case q15 => exact fun _ _ _ h => h
    case w15 => rfl
    case s15 => assumption
    case h15 => (intro W hSw; obtain ⟨hSa, hSb⟩ := hSw; go_simp; try with_reducible rfl)
    try simp only [Act.put, List.setIfInBounds_toArray, List.set_cons_zero, List.set_cons_succ]
    refine wpAnyH_take (i := 16) (oi := ?o16) (v := ?v16) ?e16 ?a16 ?b16 ?c16 ?q16 (Or.inl ⟨?w16, ?h16⟩) ?s16 ?r16
    case e16 => (simp only [List.getElem?_toArray, List.getElem?_cons_zero, List.getElem?_cons_succ]; rfl)
    case a16 => kernel_rfl
    case b16 => kernel_rfl
    case c16 => kernel_rfl
    case q16 => exact fun _ _ _ h => h
    case w16 => rfl
    case s16 => assumption
    case h16 => (intro W hSw; obtain ⟨hSa, hSb⟩ := hSw; go_simp; try with_reducible rfl)
    try simp only [Act.put, List.setIfInBounds_toArray, List.set_cons_zero, List.set_cons_succ]
    refine wpAnyH_take (i := 17) (oi := ?o17) (v := ?v17) ?e17 ?a17 ?b17 ?c17 ?q17 (Or.inl ⟨?w17, ?h17⟩) ?s17 ?r17
    case e17 => (simp only [List.getElem?_toArray, List.getElem?_cons_zero, List.getElem?_cons_succ]; rfl)
    case a17 => kernel_rfl
    case b17 => kernel_rfl
    case c17 => kernel_rfl
    case q17 => exact fun _ _ _ h => h
    case w17 => rfl
    case s17 => assumption
    case h17 => (intro W hSw; obtain ⟨hSa, hSb⟩ := hSw; go_simp; try with_reducible rfl)
    try simp only [Act.put, List.setIfInBounds_toArray, List.set_cons_zero, List.set_cons_succ]
    refine wpAnyH_take (i := 18) (oi := ?o18) (v := ?v18) ?e18 ?a18 ?b18 ?c18 ?q18 (Or.inl ⟨?w18, ?h18⟩) ?s18 ?r18
    case e18 => (simp only [List.getElem?_toArray, List.getElem?_cons_zero, List.getElem?_cons_succ]; rfl)
    case a18 => kernel_rfl
    case b18 => kernel_rfl
    case c18 => kernel_rfl
    case q18 => exact fun _ _ _ h => h
    case w18 => rfl
    case s18 => assumption
    case h18 => (intro W hSw; obtain ⟨hSa, hSb⟩ := hSw; go_simp; try with_reducible rfl)
    try simp only [Act.put, List.setIfInBounds_toArray, List.set_cons_zero, List.set_cons_succ]
    refine wpAnyH_take (i := 19) (oi := ?o19) (v := ?v19) ?e19 ?a19 ?b19 ?c19 ?q19 (Or.inl ⟨?w19, ?h19⟩) ?s19 ?r19
    case e19 => (simp only [List.getElem?_toArray, List.getElem?_cons_zero, List.getElem?_cons_succ]; rfl)
    case a19 => kernel_rfl
    case b19 => kernel_rfl
    case c19 => kernel_rfl
    case q19 => exact fun _ _ _ h => h
    case w19 => rfl
    case s19 => assumption
    case h19 => (intro W hSw; obtain ⟨hSa, hSb⟩ := hSw; go_simp; try with_reducible rfl)
    try simp only [Act.put, List.setIfInBounds_toArray, List.set_cons_zero, List.set_cons_succ]
    refine wpAnyH_take (i := 20) (oi := ?o20) (v := ?v20) ?e20 ?a20 ?b20 ?c20 ?q20 (Or.inl ⟨?w20, ?h20⟩) ?s20 ?r20
    case e20 => (simp only [List.getElem?_toArray, List.getElem?_cons_zero, List.getElem?_cons_succ]; rfl)
    case a20 => kernel_rfl
    case b20 => kernel_rfl
    case c20 => kernel_rfl
    case q20 => exact fun _ _ _ h => h
    case w20 => rfl
    case s20 => assumption
    case h20 => (intro W hSw; obtain ⟨hSa, hSb⟩ := hSw; go_simp; try with_reducible rfl)
    try simp only [Act.put, List.setIfInBounds_toArray, List.set_cons_zero, List.set_cons_succ]
    refine wpAnyH_take (i := 21) (oi := ?o21) (v := ?v21) ?e21 ?a21 ?b21 ?c21 ?q21 (Or.inl ⟨?w21, ?h21⟩) ?s21 ?r21
    case e21 => (simp only [List.getElem?_toArray, List.getElem?_cons_zero, List.getElem?_cons_succ]; rfl)
    case a21 => kernel_rfl
    case b21 => kernel_rfl
    case c21 => kernel_rfl
    case q21 => exact fun _ _ _ h => h
    case w21 => rfl
    case s21 => assumption
    case h21 => (intro W hSw; obtain ⟨hSa, hSb⟩ := hSw; go_simp; try with_reducible rfl)
    try simp only [Act.put, List.setIfInBounds_toArray, List.set_cons_zero, List.set_cons_succ]
    refine wpAnyH_take (i := 22) (oi := ?o22) (v := ?v22) ?e22 ?a22 ?b22 ?c22 ?q22 (Or.inl ⟨?w22, ?h22⟩) ?s22 ?r22
    case e22 => (simp only [List.getElem?_toArray, List.getElem?_cons_zero, List.getElem?_cons_succ]; rfl)
    case a22 => kernel_rfl
    case b22 => kernel_rfl
    case c22 => kernel_rfl
    case q22 => exact fun _ _ _ h => h
    case w22 => rfl
    case s22 => assumption
    case h22 => (intro W hSw; obtain ⟨hSa, hSb⟩ := hSw; go_simp; try with_reducible rfl)
    try simp only [Act.put, List.setIfInBounds_toArray, List.set_cons_zero, List.set_cons_succ]
    refine wpAnyH_take (i := 23) (oi := ?o23) (v := ?v23) ?e23 ?a23 ?b23 ?c23 ?q23 (Or.inl ⟨?w23, ?h23⟩) ?s23 ?r23
    case e23 => (simp only [List.getElem?_toArray, List.getElem?_cons_zero, List.getElem?_cons_succ]; rfl)
    case a23 => kernel_rfl
    case b23 => kernel_rfl
    case c23 => kernel_rfl
    case q23 => exact fun _ _ _ h => h
    case w23 => rfl
    case s23 => assumption
    case h23 => (intro W hSw; obtain ⟨hSa, hSb⟩ := hSw; go_simp; try with_reducible rfl)
    try simp only [Act.put, List.setIfInBounds_toArray, List.set_cons_zero, List.set_cons_succ]
    refine wpAnyH_take (i := 24) (oi := ?o24) (v := ?v24) ?e24 ?a24 ?b24 ?c24 ?q24 (Or.inl ⟨?w24, ?h24⟩) ?s24 ?r24
    case e24 => (simp only [List.getElem?_toArray, List.getElem?_cons_zero, List.getElem?_cons_succ]; rfl)
    case a24 => kernel_rfl
    case b24 => kernel_rfl
    case c24 => kernel_rfl
    case q24 => exact fun _ _ _ h => h
    case w24 => rfl
    case s24 => assumption
    case h24 => (intro W hSw; obtain ⟨hSa, hSb⟩ := hSw; go_simp; try with_reducible rfl)
    try simp only [Act.put, List.setIfInBounds_toArray, List.set_cons_zero, List.set_cons_succ]
    refine wpAnyH_take (i := 25) (oi := ?o25) (v := ?v25) ?e25 ?a25 ?b25 ?c25 ?q25 (Or.inl ⟨?w25, ?h25⟩) ?s25 ?r25
    case e25 => (simp only [List.getElem?_toArray, List.getElem?_cons_zero, List.getElem?_cons_succ]; rfl)
    case a25 => kernel_rfl
    case b25 => kernel_rfl
    case c25 => kernel_rfl
    case q25 => exact fun _ _ _ h => h
    case w25 => rfl
    case s25 => assumption
    case h25 => (intro W hSw; obtain ⟨hSa, hSb⟩ := hSw; go_simp; try with_reducible rfl)
    try simp only [Act.put, List.setIfInBounds_toArray, List.set_cons_zero, List.set_cons_succ]
    refine wpAnyH_take (i := 26) (oi := ?o26) (v := ?v26) ?e26 ?a26 ?b26 ?c26 ?q26 (Or.inl ⟨?w26, ?h26⟩) ?s26 ?r26
    case e26 => (simp only [List.getElem?_toArray, List.getElem?_cons_zero, List.getElem?_cons_succ]; rfl)
    case a26 => kernel_rfl
    case b26 => kernel_rfl
    case c26 => kernel_rfl
    case q26 => exact fun _ _ _ h => h
    case w26 => rfl
    case s26 => assumption
    case h26 => (intro W hSw; obtain ⟨hSa, hSb⟩ := hSw; go_simp; try with_reducible rfl)
    try simp only [Act.put, List.setIfInBounds_toArray, List.set_cons_zero, List.set_cons_succ]
    refine wpAnyH_ready (rs := [27]) (by kernel_rfl) (by simp) (AllReadyH.cons (o := ?o27) ?e27 (fun K hK => ?k27) AllReadyH.nil)
    case e27 => (simp only [List.getElem?_toArray, List.getElem?_cons_zero, List.getElem?_cons_succ]; rfl)
    go_simp
    refine (awake_c _ T3.out).mono ?_
    rintro e w4 ⟨rfl, hb4⟩
    have hHeld4 : (fun W => Bts W g 0 pv ∧ Bts W gp 0 pv) w4 := ⟨S3.out.1.below hb4 G3.out.1, S3.out.2.below hb4 G3.out.2⟩
    have B4 : Hid (Below w.heap.size w w4) := B3.out.trans (hb4.mono B3.out.size)
    clear hb4
    go_wp2_with fail
    refine hK.out _ _ hHeld4 (fun _ => ?_)
    clear hK K hHeld3
    try simp only [Act.put, List.setIfInBounds_toArray, List.set_cons_zero, List.set_cons_succ]
    refine wpAnyH_take (i := 28) (oi := ?o28) (v := ?v28) ?e28 ?a28 ?b28 ?c28 ?q28 (Or.inl ⟨?w28, ?h28⟩) ?s28 ?r28
    case e28 => (simp only [List.getElem?_toArray, List.getElem?_cons_zero, List.getElem?_cons_succ]; rfl)
    case a28 => kernel_rfl
    case b28 => kernel_rfl
    case c28 => kernel_rfl
    case q28 => exact fun _ _ _ h => h
    case w28 => rfl
    case s28 => assumption
    case h28 => (intro W hSw; obtain ⟨hSa, hSb⟩ := hSw; go_simp; try with_reducible rfl)
    try simp only [Act.put, List.setIfInBounds_toArray, List.set_cons_zero, List.set_cons_succ]
    refine wpAnyH_take (i := 29) (oi := ?o29) (v := ?v29) ?e29 ?a29 ?b29 ?c29 ?q29 (Or.inl ⟨?w29, ?h29⟩) ?s29 ?r29
    case e29 => (simp only [List.getElem?_toArray, List.getElem?_cons_zero, List.getElem?_cons_succ]; rfl)
    case a29 => kernel_rfl
    case b29 => kernel_rfl
    case c29 => kernel_rfl
    case q29 => exact fun _ _ _ h => h
    case w29 => rfl
    case s29 => assumption
    case h29 => (intro W hSw; obtain ⟨hSa, hSb⟩ := hSw; go_simp; try with_reducible rfl)
    try simp only [Act.put, List.setIfInBounds_toArray, List.set_cons_zero, List.set_cons_succ]
    refine wpAnyH_done (by kernel_rfl) ?_ _
    refine NoPanic.normal ?_
    go_wp2
    go_ret
    exact ⟨rfl, B4.out⟩

set_option maxRecDepth 100000 in
theorem lifted (os : Os) (started : os.Started) (H : Type) (enc : TypeId × Value → H) :
    ReturnsInHanded {} Tryd.checked os 4 .any (fun w args => (Rows.utfPutSpec.pre enc Tryd.prog Tryd.f4 [] false w args ∧ laidMetH Tryd.prog [("larum/utf.firsts", Rows.laid_larum_utf_firsts), ("larum/utf.leads", Rows.laid_larum_utf_leads)] w) ∧ sizedMet enc Tryd.prog Tryd.f4 (OpenSpec.ofChange Rows.utfPutSpec) false w args)
      (Rows.utfPutSpec.post enc Tryd.prog Tryd.f4 false true false false) := by
  refine returnsInHanded_of_change_and (C := Tryd.checked) (X := fun w _ => laidMetH Tryd.prog [("larum/utf.firsts", Rows.laid_larum_utf_firsts), ("larum/utf.leads", Rows.laid_larum_utf_leads)] w) (fun _ _ _ hh h => h.of_heap hh) own started (by kernel_rfl) Tryd.func4
    (ChangeSpec.witness_shaped (enc := enc) (C := Tryd.checked) (os := os) (X := fun w _ => laidMetH Tryd.prog [("larum/utf.firsts", Rows.laid_larum_utf_firsts), ("larum/utf.leads", Rows.laid_larum_utf_leads)] w) false (World.doorLaid Tryd.prog 400 os) #[.int .i32 0] 8 rfl (World.shaped_of_RefB (by kernel_rfl) (by kernel_rfl)) (by kernel_rfl) (by kernel_rfl) (by kernel_rfl) (door_met os _)) ?_
  intro W base args ds gs before hval0 hW _ _ hL _
  have hval : ∀ (j : Nat) t v, Tryd.f4.params[j]? = some t → args[j]? = some v → Value.okWide Tryd.prog W .any base t v := hval0
  have hW' := hW
  obtain ⟨p, q, hA0, hV, rfl, hfz, hnd⟩ := hW
  have hA : DataW.TrodAll enc Tryd.prog W 0 (fun _ => true) true Tryd.f4.params.toList args.toList ds p := hA0
  rw [Tryd.params4] at hA hval
  obtain ⟨v0, vs0, d0, ds0, p0, q0, hargs, rfl, rfl, h0, r0⟩ := trodAll_cons hA
  obtain ⟨rfl, rfl, rfl⟩ := trodAll_nil r0
  obtain rfl : args = #[v0] := by cases args; simp_all
  obtain ⟨rfl, rfl⟩ := trodVars_none hV
  obtain ⟨a0, rfl, rfl, rfl, w0⟩ := open_int Tryd.underlying21 (hval 0 21 v0 rfl rfl) h0
  clear hA0 hval0
  have hT := of_laid hL
  refine (walk a0 w0 W hT).mono fun e W' ⟨he, bel⟩ => ?_
  subst he
  exact ⟨_, rfl, _, _, _, [], _, [], hW', trodAll_mk1 (shut_bool Tryd.underlying4 _), (trodAll_cons_mk (shut_int Tryd.underlying21 w0) trodAll_mk0), rfl, bel.frame _, fun h => by cases h⟩

theorem over : Rows.UtfPutSaid :=
  OpenClaim.holds_of_wide 4 Tryd.f4 rfl rfl rfl rfl rfl rfl rfl ⟨rfl, rfl, rfl, rfl, rfl⟩ rfl rfl rfl rfl rfl (by kernel_rfl) Tryd.func4 (by kernel_rfl)
    (of_decide_eq_true (by kernel_rfl)) (by unfold Func.isWrapper; first | (rw [if_pos (by decide +kernel)]; kernel_rfl) | (rw [if_neg (by decide +kernel)]; exact ⟨rfl, rfl⟩))
    (fun os started H enc _ => lifted os started H enc)
end Go.Proofs.YthepijohllemdaaDoor.utfPut
namespace Go.Proofs.YthepijohllemdaaDoor
theorem utfPut_card : Rows.UtfPutCardSaid :=
  Claim7.holds_tied_plain_at .later [] [.data, .data] true (true, "5a88f8ac1afdae99643bef678160593da0a619f8695168da0bc9806d527633f8") false
    utfPut.over (fun _ h => by cases h) (by kernel_rfl) (fun _ h => by cases h) utfPut_row_tie rfl ⟨rfl, rfl⟩ (by kernel_rfl) rfl
    (fun f fn hf hfn => by
      obtain rfl : f = 4 := Option.some.inj ((show Tryd.prog.funcNamed Tryd.f4.name = some 4 by kernel_rfl).symm.trans hf) |>.symm
      obtain rfl : fn = Tryd.f4 := (Option.some.inj (Tryd.func4.symm.trans hfn)).symm
      exact ⟨by kernel_rfl, fun j t ht => by
        rw [Tryd.params4] at ht
        have hm : t ∈ [21] := by simpa using Array.mem_of_getElem? ht
        have hall : ([21].all fun u => !Tryd.prog.wantsStandIn u) = true := by kernel_rfl
        exact (show Tryd.prog.wantsStandIn t = false by simpa using List.all_eq_true.1 hall t hm)⟩)
    (by kernel_rfl)
#print axioms utfPut_card
end Go.Proofs.YthepijohllemdaaDoor
