/- The law AlertIs: at every two alerts that came in, where the tables lie as the program's text lays them. -/
import Derived.Test.YtbimncnicioagaaDoorAlH
namespace Go.Proofs.YtbimncnicioagaaDoor.Al
open Go.RowKit Ch Jt Lb
set_option linter.unusedSimpArgs false
set_option linter.unusedVariables false

theorem rsv_rgt {n : Nat} {s e now : Int} (h : rgt n s e = true) : rgt n s (rsv s e now) = true := by
  unfold rgt tim at *
  unfold rsv act
  simp only [Bool.and_eq_true, decide_eq_true_eq] at *
  split <;> (refine ⟨⟨⟨?_, ?_⟩, ?_⟩, ?_⟩ <;> first | omega | (constructor <;> omega))
set_option maxRecDepth 100000 in
set_option maxHeartbeats 8000000 in
theorem is_law (la na : Option Addr) (lc nc : Nat) (ts us : List FB) (s e now : Int) (w : World) (hE : Ev w) (hA : InA w la na ts us s e) :
    Calls Tryd.prog 3 #[agA (.slice la ts.length lc) (.slice na us.length nc) s e, .int .i64 now] w fun r w' => r = .returned (.bool true) ∧ Below w.heap.size w w' := by
  obtain ⟨W1, hW1, hk1, hb1⟩ := new4 w (.slice la ts.length lc) (.slice na us.length nc) (.int .i64 s) (.int .i64 e) 24
  obtain ⟨x0, x1, x2, x3⟩ := cells4 hk1
  have HO1 := Lib.hid (Ours_c la na lc nc ts us s e W1 (hE.go hb1) (IsPrs.go hA.t hb1) (IsPrs.go hA.u hb1))
  have HE := Lib.hid hE
  have HB01 := Lib.hid hb1
  have HW1 := Lib.hid hW1
  have ok1 := (okg_of ts).len
  have ok2 := (okg_of us).len
  have HOK := Lib.hid (okg_of ts)
  obtain ⟨hsl, hsu⟩ := hA.s1
  obtain ⟨hel, heu⟩ := hA.e1
  clear hW1 hk1 hb1 hE hA
  generalize ofA (prK ts 6) = gs at *
  generalize ofA (prK us 6) = hs at *
  go_enter Tryd.func3, Tryd.ntmps3
  go_upto_region 1 with (fail)
  rw [← HW1.out]
  go_wp2_with fail
  (with_reducible refine HO1.out.mono ?_)
  rintro r w3 ⟨a1, c1, a2, c2, b1, d1, b2, d2, rfl, hRA, hRB, hp1, hp2, hb3⟩
  obtain ⟨W3, hW3, hk3, hbW3⟩ := new4 w3 (.slice a1 gs.length c1) (.slice a2 hs.length c2) (.int .i64 s) (.int .i64 e) 29
  have hs3 : W3.heap.size = w3.heap.size + 1 := by rw [hW3]; simp
  obtain ⟨W4, hW4, hk4, hbW4⟩ := new4 W3 (.slice b1 gs.length d1) (.slice b2 hs.length d2) (.int .i64 s) (.int .i64 e) 24
  rw [hs3] at hk4
  have hb34 : Below w3.heap.size w3 W4 := btr hbW3 hbW4
  have hb14 := btr hb3 hb34
  have hk34 := (hbW4.block _ (by omega)).trans hk3
  have hl4 : w3.heap.size + 1 + 1 ≤ W4.heap.size := by rw [hW4]; simp [hs3]
  have HS : Hid (∀ V, Below W4.heap.size W4 V → (V.heap[w3.heap.size]? = some (obA (.slice a1 gs.length c1) (.slice a2 hs.length c2) s e) ∧ V.heap[w3.heap.size + 1]? = some (obB (.slice b1 gs.length d1) (.slice b2 hs.length d2) s e)) ∧ Rd2 (.slice a1 gs.length c1) (.slice a2 hs.length c2) gs hs V ∧ Rd2 (.slice b1 gs.length d1) (.slice b2 hs.length d2) gs hs V ∧ Below w.heap.size w V) := fun V hV =>
    ⟨⟨(hV.block _ (by omega)).trans hk34, (hV.block _ (by omega)).trans hk4⟩, (hRA.go hb34).go hV, (hRB.go hb34).go hV, btr (btr HB01.out hb14) hV⟩
  have HP1 := Lib.hid hp1
  have HP2 := Lib.hid hp2
  have HW3 := Lib.hid hW3
  have HW4 := Lib.hid hW4
  clear hRA hRB hp1 hp2 hb3 hW3 hk3 hbW3 hs3 hW4 hk4 hbW4 hb34 hb14 hk34 HO1 HB01 x0 x1 x2 x3
  have HC : Hid (∀ V, Below W4.heap.size W4 V → V.cell? ⟨w3.heap.size, 0, none⟩ = some (.slice a1 gs.length c1) ∧ V.cell? ⟨w3.heap.size, 1, none⟩ = some (.slice a2 hs.length c2) ∧ V.cell? ⟨w3.heap.size, 2, none⟩ = some (.int .i64 (s)) ∧ V.cell? ⟨w3.heap.size, 3, none⟩ = some (.int .i64 (e)) ∧ V.cell? ⟨w3.heap.size + 1, 0, none⟩ = some (.slice b1 gs.length d1) ∧ V.cell? ⟨w3.heap.size + 1, 1, none⟩ = some (.slice b2 hs.length d2) ∧ V.cell? ⟨w3.heap.size + 1, 2, none⟩ = some (.int .i64 (s)) ∧ V.cell? ⟨w3.heap.size + 1, 3, none⟩ = some (.int .i64 (e))) := fun V hV => by
    obtain ⟨⟨q1, q2⟩, _⟩ := HS.out V hV
    obtain ⟨x0, x1, x2, x3⟩ := cells4 q1
    obtain ⟨y0, y1, y2, y3⟩ := cells4 q2
    exact ⟨x0, x1, x2, x3, y0, y1, y2, y3⟩
  have FIN := Lib.hid (fun V (hV : Below W4.heap.size W4 V) => (HS.out V hV).2.2.2)
  have HAW := Lib.hid (fun V (hV : Below W4.heap.size W4 V) => awake_c V (HE.out.go (HS.out V hV).2.2.2))
  obtain ⟨x0, x1, x2, x3, y0, y1, y2, y3⟩ := HC.out W4 (Below.refl _ _)
  go_upto_region 2 with (fail)
  rw [← HW3.out, ← HW4.out]
  go_wp2_with fail
  refine (Right_c a1 gs.length c1 (.slice a2 hs.length c2) s e W4 (by omega)).mono ?_
  rintro r w5 ⟨rfl, hb5⟩
  clear x0 x1 x2 x3 y0 y1 y2 y3
  obtain ⟨x0, x1, x2, x3, y0, y1, y2, y3⟩ := HC.out w5 hb5
  have HB5 := Lib.hid hb5
  clear hb5
  have hrE : rgtE gs.length s e = if rgt gs.length s e then 0 else 1 := rfl
  rw [hrE]
  clear hrE
  have HR6 : Hid (∀ V, Calls Tryd.prog 8 #[agA (.slice b1 gs.length d1) (.slice b2 hs.length d2) s e] V fun r w' => r = .returned (.bool (rgt gs.length s e)) ∧ Below V.heap.size V w') := fun V => Right_r b1 gs.length d1 (.slice b2 hs.length d2) s e V
  have HRG : Hid (rgt gs.length s e = true → rgt gs.length s (rsv s e now) = true) := fun h => rsv_rgt h
  have HRR : Hid (∀ V t1 f1 t2 f2, Calls Tryd.prog 8 #[agA (.slice t1 gs.length f1) (.slice t2 hs.length f2) s (rsv s e now)] V fun r w' => r = .returned (.bool (rgt gs.length s (rsv s e now))) ∧ Below V.heap.size V w') := fun V t1 f1 t2 f2 => Right_r t1 gs.length f1 (.slice t2 hs.length f2) s (rsv s e now) V
  generalize rgt gs.length s e = rg at *
  generalize rgt gs.length s (rsv s e now) = rg2 at *
  cases rg with
  | false =>
    simp only [Bool.false_eq_true, if_false]
    go_wp2_with fail
    refine (HR6.out w5).mono ?_
    rintro r w6 ⟨rfl, hb6⟩
    clear x0 x1 x2 x3 y0 y1 y2 y3
    have HB6 := Lib.hid (btr HB5.out hb6)
    obtain ⟨x0, x1, x2, x3, y0, y1, y2, y3⟩ := HC.out w6 HB6.out
    clear hb6 HB5
    go_wp2_with fail
    refine (Resolve_c a1 a2 gs.length c1 hs.length c2 s e now ⟨hsl, heu⟩ w6).mono ?_
    rintro r w7 ⟨rfl, hb7⟩
    obtain ⟨ez, hez⟩ : ∃ ez, ez = rsv s e now := ⟨_, rfl⟩
    rw [← hez] at HRR ⊢
    have HEZ := Lib.hid hez
    obtain ⟨W7, hW7, hk7, hbW7⟩ := new4 w7 (.slice a1 gs.length c1) (.slice a2 hs.length c2) (.int .i64 s) (.int .i64 ez) 29
    have HW7 := Lib.hid hW7
    have HB7 := Lib.hid (btr HB6.out (btr hb7 hbW7))
    have HL7 : Hid (w7.heap.size < W7.heap.size) := (Array.getElem?_eq_some_iff.1 hk7).1
    have HK7 := Lib.hid hk7
    clear hez hW7 hk7 hb7 hbW7 HB6 x0 x1 x2 x3 y0 y1 y2 y3
    have HD : Hid (∀ V, Below W7.heap.size W7 V → V.cell? ⟨w7.heap.size, 0, none⟩ = some (.slice a1 gs.length c1) ∧ V.cell? ⟨w7.heap.size, 1, none⟩ = some (.slice a2 hs.length c2) ∧ V.cell? ⟨w7.heap.size, 2, none⟩ = some (.int .i64 (s)) ∧ V.cell? ⟨w7.heap.size, 3, none⟩ = some (.int .i64 (ez)) ∧ V.cell? ⟨w3.heap.size + 1, 0, none⟩ = some (.slice b1 gs.length d1) ∧ V.cell? ⟨w3.heap.size + 1, 1, none⟩ = some (.slice b2 hs.length d2) ∧ V.cell? ⟨w3.heap.size + 1, 2, none⟩ = some (.int .i64 (s)) ∧ V.cell? ⟨w3.heap.size + 1, 3, none⟩ = some (.int .i64 (e))) := fun V hV => by
      obtain ⟨z0, z1, z2, z3⟩ := cells4 ((hV.block _ HL7.out).trans HK7.out)
      obtain ⟨_, _, _, _, y0, y1, y2, y3⟩ := HC.out V (btr HB7.out hV)
      exact ⟨z0, z1, z2, z3, y0, y1, y2, y3⟩
    have HPA := Lib.hid (fun V (hV : Below W4.heap.size W4 V) => PlainA_c a1 a2 c1 c2 gs hs s ez V (HS.out V hV).2.1 HP1.out HP2.out (by omega) (by omega))
    have HRV : Hid (∀ V, Calls Tryd.prog 12 #[agA (.slice b1 gs.length d1) (.slice b2 hs.length d2) s e, .int .i64 now] V fun r w' => r = .returned (agA (.slice b1 gs.length d1) (.slice b2 hs.length d2) s ez) ∧ Below V.heap.size V w') := fun V => by
      have := Resolve_r b1 b2 gs.length d1 hs.length d2 s e now ⟨hsl, heu⟩ V
      rwa [← HEZ.out] at this
    have HSM := Lib.hid (fun V t1 f1 t2 f2 h1 h2 => Same_c t1 t2 b1 b2 f1 f2 d1 d2 gs hs s ez V h1 h2 (by omega) (by omega))
    have BD := Lib.hid (bdr W7)
    obtain ⟨z0, z1, z2, z3, y0, y1, y2, y3⟩ := HD.out _ (bdr W7)
    go_upto_region 6 with (fail)
    rw [← HW7.out]
    have C6D : ∀ V, Below W7.heap.size W7 V → V.cell? ⟨w3.heap.size + 1, 0, none⟩ = some (.slice b1 gs.length d1) ∧ V.cell? ⟨w3.heap.size + 1, 1, none⟩ = some (.slice b2 hs.length d2) ∧ V.cell? ⟨w3.heap.size + 1, 2, none⟩ = some (.int .i64 (s)) ∧ V.cell? ⟨w3.heap.size + 1, 3, none⟩ = some (.int .i64 (e)) := fun V h => (HD.out V h).2.2.2.2
    go_region_with (first | (go_at_call 11; (with_reducible refine (HPA.out W7.drew (btr HB7.out BD.out)).mono ?_); rintro r w8 ⟨t1, f1, t2, f2, rfl, hrd, hb8, hp5, hp6⟩; have HB8 := Lib.hid (btr BD.out hb8); obtain ⟨z0, z1, z2, z3, y0, y1, y2, y3⟩ := HD.out w8 HB8.out; have HR8 := Lib.hid hrd; clear hrd hb8 hp5 hp6) | (go_at_call 12; (with_reducible refine (HRV.out w8).mono ?_); rintro r w9 ⟨rfl, hb9⟩; have HB9 := Lib.hid (btr HB8.out hb9); obtain ⟨z0, z1, z2, z3, y0, y1, y2, y3⟩ := HD.out w9 HB9.out; have HR9 := Lib.hid (HR8.out.go hb9); clear hb9) | (go_at_call 10; (with_reducible refine (HSM.out w9 t1 f1 t2 f2 HR9.out (HS.out w9 (btr HB7.out HB9.out)).2.2.1).mono ?_); rintro r w10 ⟨rfl, hb10⟩; have HB10 := Lib.hid (btr HB9.out hb10); obtain ⟨z0, z1, z2, z3, y0, y1, y2, y3⟩ := HD.out w10 HB10.out; clear hb10) | (go_at_call 8; (with_reducible refine (HR6.out w10).mono ?_); rintro r w11 ⟨rfl, hb11⟩; have HB11 := Lib.hid (btr HB10.out hb11); obtain ⟨z0, z1, z2, z3, y0, y1, y2, y3⟩ := HD.out w11 HB11.out; clear hb11))
    all_goals have HBL := HB11
    all_goals obtain ⟨WL, hWL⟩ : ∃ WL, WL = w11 := ⟨_, rfl⟩
    all_goals rw [← hWL] at HBL ⊢
    all_goals clear hWL
    all_goals
      have HB := Lib.hid (btr HB7.out HBL.out)
      clear HB7 HBL
      obtain ⟨x0, x1, x2, x3, y0, y1, y2, y3⟩ := HC.out _ (btr HB.out (bdr WL))
      have BDL := Lib.hid (btr HB.out (bdr WL))
      have hsz : (Jt.mkS (txtL gs)).size ≤ 220102 := by
        have := prs_len HOK.out.short
        rw [Jt.size_mkS]; unfold txtL; simp only [List.length_cons, List.length_append, List.length_nil]; omega
      have HKY : Hid (∀ V, Below W4.heap.size W4 V → Calls Tryd.prog 15 #[agA (.slice a1 gs.length c1) (.slice a2 hs.length c2) s e] V fun r w' => r = .returned (.string (⟨#[97, 47]⟩ ++ Jt.mkS (txtL gs))) ∧ Below V.heap.size V w') := fun V hV => Key_c a1 c1 gs (.slice a2 hs.length c2) s e V (HE.out.go (FIN.out V hV)) (HS.out V hV).2.1.a (by omega) HOK.out.short HOK.out.vld
      have HTX : Hid (∀ V, Below W4.heap.size W4 V → Calls Tryd.prog 16 #[.slice b1 gs.length d1] V fun r w' => r = .returned (.string (Jt.mkS (txtL gs))) ∧ Below V.heap.size V w') := fun V hV => TextR_c b1 d1 gs V (HS.out V hV).2.2.1.a (by omega) HOK.out.short
      have HAC : Hid (∀ V, Calls Tryd.prog 13 #[agA (.slice a1 gs.length c1) (.slice a2 hs.length c2) s e, .int .i64 now] V fun r w' => r = .returned (.bool (act s e now)) ∧ Below V.heap.size V w') := fun V => Active_c (.slice a1 gs.length c1) (.slice a2 hs.length c2) s e now V
      have HAR : Hid (∀ V, Calls Tryd.prog 14 #[agA (.slice b1 gs.length d1) (.slice b2 hs.length d2) s e, .int .i64 now] V fun r w' => r = .returned (.bool (act s e now)) ∧ Below V.heap.size V w') := fun V => Active_r (.slice b1 gs.length d1) (.slice b2 hs.length d2) s e now V
      generalize Jt.mkS (txtL gs) = tx at *
      generalize act s e now = ac at *
      have hac : (ac == ac) = true := by simp
      have hadd : ∀ W, (Op.stringOp .add ⟨#[97, 47]⟩ tx).run Tryd.prog W = .ok (.string (⟨#[97, 47]⟩ ++ tx)) W := fun W => run_string_add_sum _ _ _ (by show 2 + tx.size ≤ _; omega)
      go_upto_region 8 with (fail)
      go_region_held3 (fun V => V.cell? ⟨w3.heap.size, 0, none⟩ = some (.slice a1 gs.length c1) ∧ V.cell? ⟨w3.heap.size, 1, none⟩ = some (.slice a2 hs.length c2) ∧ V.cell? ⟨w3.heap.size, 2, none⟩ = some (.int .i64 (s)) ∧ V.cell? ⟨w3.heap.size, 3, none⟩ = some (.int .i64 (e)) ∧ V.cell? ⟨w3.heap.size + 1, 0, none⟩ = some (.slice b1 gs.length d1) ∧ V.cell? ⟨w3.heap.size + 1, 1, none⟩ = some (.slice b2 hs.length d2) ∧ V.cell? ⟨w3.heap.size + 1, 2, none⟩ = some (.int .i64 (s)) ∧ V.cell? ⟨w3.heap.size + 1, 3, none⟩ = some (.int .i64 (e))) (first | (with_reducible exact ⟨x0, x1, x2, x3, y0, y1, y2, y3⟩) | (with_reducible exact HX21.out) | (with_reducible exact HX22.out) | (with_reducible exact HX23.out) | (with_reducible exact HX24.out) | (with_reducible exact HX25.out)) (first | (go_at_call 13; (with_reducible refine (HAC.out WL.drew).mono ?_); rintro r w21 ⟨rfl, hb21⟩; have HB21 := Lib.hid (btr BDL.out hb21); have HX21 := Lib.hid (HC.out w21 HB21.out); clear hb21) | (go_at_call 14; (with_reducible refine (HAR.out w21).mono ?_); rintro r w22 ⟨rfl, hb22⟩; have HB22 := Lib.hid (btr HB21.out hb22); have HX22 := Lib.hid (HC.out w22 HB22.out); clear hb22) | (go_at_call 15; (with_reducible refine (HKY.out w22 HB22.out).mono ?_); rintro r w23 ⟨rfl, hb23⟩; have HB23 := Lib.hid (btr HB22.out hb23); have HX23 := Lib.hid (HC.out w23 HB23.out); clear hb23) | (go_at_call 16; (with_reducible refine (HTX.out w23 HB23.out).mono ?_); rintro r w24 ⟨rfl, hb24⟩; have HB24 := Lib.hid (btr HB23.out hb24); have HX24 := Lib.hid (HC.out w24 HB24.out); clear hb24) | (go_at_call 17; (with_reducible refine (HAW.out w24 HB24.out).mono ?_); rintro r w25 ⟨rfl, hb25⟩; have HB25 := Lib.hid (btr HB24.out hb25); have HX25 := Lib.hid (HC.out w25 HB25.out); clear hb25))
      all_goals
        have HBF := Lib.hid (FIN.out _ HB25.out)
        go_wp2
        go_ret
        exact ⟨rfl, HBF.out⟩
  | true =>
    obtain rfl := HRG.out rfl
    simp only [if_true]
    go_wp2_with fail
    refine (HR6.out w5).mono ?_
    rintro r w6 ⟨rfl, hb6⟩
    clear x0 x1 x2 x3 y0 y1 y2 y3
    have HB6 := Lib.hid (btr HB5.out hb6)
    obtain ⟨x0, x1, x2, x3, y0, y1, y2, y3⟩ := HC.out w6 HB6.out
    clear hb6 HB5
    go_wp2_with fail
    refine (Resolve_c a1 a2 gs.length c1 hs.length c2 s e now ⟨hsl, heu⟩ w6).mono ?_
    rintro r w7 ⟨rfl, hb7⟩
    obtain ⟨ez, hez⟩ : ∃ ez, ez = rsv s e now := ⟨_, rfl⟩
    rw [← hez] at HRR ⊢
    have HEZ := Lib.hid hez
    obtain ⟨W7, hW7, hk7, hbW7⟩ := new4 w7 (.slice a1 gs.length c1) (.slice a2 hs.length c2) (.int .i64 s) (.int .i64 ez) 29
    have HW7 := Lib.hid hW7
    have HB7 := Lib.hid (btr HB6.out (btr hb7 hbW7))
    have HL7 : Hid (w7.heap.size < W7.heap.size) := (Array.getElem?_eq_some_iff.1 hk7).1
    have HK7 := Lib.hid hk7
    clear hez hW7 hk7 hb7 hbW7 HB6 x0 x1 x2 x3 y0 y1 y2 y3
    have HD : Hid (∀ V, Below W7.heap.size W7 V → V.cell? ⟨w7.heap.size, 0, none⟩ = some (.slice a1 gs.length c1) ∧ V.cell? ⟨w7.heap.size, 1, none⟩ = some (.slice a2 hs.length c2) ∧ V.cell? ⟨w7.heap.size, 2, none⟩ = some (.int .i64 (s)) ∧ V.cell? ⟨w7.heap.size, 3, none⟩ = some (.int .i64 (ez)) ∧ V.cell? ⟨w3.heap.size + 1, 0, none⟩ = some (.slice b1 gs.length d1) ∧ V.cell? ⟨w3.heap.size + 1, 1, none⟩ = some (.slice b2 hs.length d2) ∧ V.cell? ⟨w3.heap.size + 1, 2, none⟩ = some (.int .i64 (s)) ∧ V.cell? ⟨w3.heap.size + 1, 3, none⟩ = some (.int .i64 (e))) := fun V hV => by
      obtain ⟨z0, z1, z2, z3⟩ := cells4 ((hV.block _ HL7.out).trans HK7.out)
      obtain ⟨_, _, _, _, y0, y1, y2, y3⟩ := HC.out V (btr HB7.out hV)
      exact ⟨z0, z1, z2, z3, y0, y1, y2, y3⟩
    have HPA := Lib.hid (fun V (hV : Below W4.heap.size W4 V) => PlainA_c a1 a2 c1 c2 gs hs s ez V (HS.out V hV).2.1 HP1.out HP2.out (by omega) (by omega))
    have HRV : Hid (∀ V, Calls Tryd.prog 12 #[agA (.slice b1 gs.length d1) (.slice b2 hs.length d2) s e, .int .i64 now] V fun r w' => r = .returned (agA (.slice b1 gs.length d1) (.slice b2 hs.length d2) s ez) ∧ Below V.heap.size V w') := fun V => by
      have := Resolve_r b1 b2 gs.length d1 hs.length d2 s e now ⟨hsl, heu⟩ V
      rwa [← HEZ.out] at this
    have HSM := Lib.hid (fun V t1 f1 t2 f2 h1 h2 => Same_c t1 t2 b1 b2 f1 f2 d1 d2 gs hs s ez V h1 h2 (by omega) (by omega))
    have BD := Lib.hid (bdr W7)
    obtain ⟨z0, z1, z2, z3, y0, y1, y2, y3⟩ := HD.out _ (bdr W7)
    go_upto_region 6 with (fail)
    rw [← HW7.out]
    go_region_held3 (fun V => V.cell? ⟨w7.heap.size, 0, none⟩ = some (.slice a1 gs.length c1) ∧ V.cell? ⟨w7.heap.size, 1, none⟩ = some (.slice a2 hs.length c2) ∧ V.cell? ⟨w7.heap.size, 2, none⟩ = some (.int .i64 (s)) ∧ V.cell? ⟨w7.heap.size, 3, none⟩ = some (.int .i64 (ez)) ∧ V.cell? ⟨w3.heap.size + 1, 0, none⟩ = some (.slice b1 gs.length d1) ∧ V.cell? ⟨w3.heap.size + 1, 1, none⟩ = some (.slice b2 hs.length d2) ∧ V.cell? ⟨w3.heap.size + 1, 2, none⟩ = some (.int .i64 (s)) ∧ V.cell? ⟨w3.heap.size + 1, 3, none⟩ = some (.int .i64 (e))) (first | (with_reducible exact ⟨z0, z1, z2, z3, y0, y1, y2, y3⟩) | (with_reducible exact HX8.out) | (with_reducible exact HX9.out) | (with_reducible exact HX10.out) | (with_reducible exact HX11.out) | (with_reducible exact HX12.out) | (with_reducible exact HX13.out)) (first | (go_at_call 11; (with_reducible refine (HPA.out W7.drew (btr HB7.out BD.out)).mono ?_); rintro r w8 ⟨t1, f1, t2, f2, rfl, hrd, hb8, hp5, hp6⟩; have HB8 := Lib.hid (btr BD.out hb8); have HX8 := Lib.hid (HD.out w8 HB8.out); have HR8 := Lib.hid hrd; clear hrd hb8 hp5 hp6) | (go_at_call 12; (with_reducible refine (HRV.out w8).mono ?_); rintro r w9 ⟨rfl, hb9⟩; have HB9 := Lib.hid (btr HB8.out hb9); have HX9 := Lib.hid (HD.out w9 HB9.out); have HR9 := Lib.hid (HR8.out.go hb9); clear hb9) | (go_at_call 10; (with_reducible refine (HSM.out w9 t1 f1 t2 f2 HR9.out (HS.out w9 (btr HB7.out HB9.out)).2.2.1).mono ?_); rintro r w10 ⟨rfl, hb10⟩; have HB10 := Lib.hid (btr HB9.out hb10); have HX10 := Lib.hid (HD.out w10 HB10.out); clear hb10) | (go_at_call 8; (with_reducible refine (HR6.out w10).mono ?_); rintro r w11 ⟨rfl, hb11⟩; have HB11 := Lib.hid (btr HB10.out hb11); have HX11 := Lib.hid (HD.out w11 HB11.out); clear hb11) | (go_at_call 11; (with_reducible refine (HPA.out w11 (btr HB7.out HB11.out)).mono ?_); rintro r w12 ⟨u1, g1, u2, g2, rfl, hrd, hb12, hp5, hp6⟩; have HB12 := Lib.hid (btr HB11.out hb12); have HX12 := Lib.hid (HD.out w12 HB12.out); clear hrd hb12 hp5 hp6) | (go_at_call 8; (with_reducible refine (HRR.out w12 u1 g1 u2 g2).mono ?_); rintro r w13 ⟨rfl, hb13⟩; have HB13 := Lib.hid (btr HB12.out hb13); have HX13 := Lib.hid (HD.out w13 HB13.out); clear hb13))
    all_goals have HBL := HB13
    all_goals obtain ⟨WL, hWL⟩ : ∃ WL, WL = w13 := ⟨_, rfl⟩
    all_goals rw [← hWL] at HBL ⊢
    all_goals clear hWL
    all_goals
      have HB := Lib.hid (btr HB7.out HBL.out)
      clear HB7 HBL
      obtain ⟨x0, x1, x2, x3, y0, y1, y2, y3⟩ := HC.out _ (btr HB.out (bdr WL))
      have BDL := Lib.hid (btr HB.out (bdr WL))
      have hsz : (Jt.mkS (txtL gs)).size ≤ 220102 := by
        have := prs_len HOK.out.short
        rw [Jt.size_mkS]; unfold txtL; simp only [List.length_cons, List.length_append, List.length_nil]; omega
      have HKY : Hid (∀ V, Below W4.heap.size W4 V → Calls Tryd.prog 15 #[agA (.slice a1 gs.length c1) (.slice a2 hs.length c2) s e] V fun r w' => r = .returned (.string (⟨#[97, 47]⟩ ++ Jt.mkS (txtL gs))) ∧ Below V.heap.size V w') := fun V hV => Key_c a1 c1 gs (.slice a2 hs.length c2) s e V (HE.out.go (FIN.out V hV)) (HS.out V hV).2.1.a (by omega) HOK.out.short HOK.out.vld
      have HTX : Hid (∀ V, Below W4.heap.size W4 V → Calls Tryd.prog 16 #[.slice b1 gs.length d1] V fun r w' => r = .returned (.string (Jt.mkS (txtL gs))) ∧ Below V.heap.size V w') := fun V hV => TextR_c b1 d1 gs V (HS.out V hV).2.2.1.a (by omega) HOK.out.short
      have HAC : Hid (∀ V, Calls Tryd.prog 13 #[agA (.slice a1 gs.length c1) (.slice a2 hs.length c2) s e, .int .i64 now] V fun r w' => r = .returned (.bool (act s e now)) ∧ Below V.heap.size V w') := fun V => Active_c (.slice a1 gs.length c1) (.slice a2 hs.length c2) s e now V
      have HAR : Hid (∀ V, Calls Tryd.prog 14 #[agA (.slice b1 gs.length d1) (.slice b2 hs.length d2) s e, .int .i64 now] V fun r w' => r = .returned (.bool (act s e now)) ∧ Below V.heap.size V w') := fun V => Active_r (.slice b1 gs.length d1) (.slice b2 hs.length d2) s e now V
      generalize Jt.mkS (txtL gs) = tx at *
      generalize act s e now = ac at *
      have hac : (ac == ac) = true := by simp
      have hadd : ∀ W, (Op.stringOp .add ⟨#[97, 47]⟩ tx).run Tryd.prog W = .ok (.string (⟨#[97, 47]⟩ ++ tx)) W := fun W => run_string_add_sum _ _ _ (by show 2 + tx.size ≤ _; omega)
      go_upto_region 8 with (fail)
      go_region_held3 (fun V => V.cell? ⟨w3.heap.size, 0, none⟩ = some (.slice a1 gs.length c1) ∧ V.cell? ⟨w3.heap.size, 1, none⟩ = some (.slice a2 hs.length c2) ∧ V.cell? ⟨w3.heap.size, 2, none⟩ = some (.int .i64 (s)) ∧ V.cell? ⟨w3.heap.size, 3, none⟩ = some (.int .i64 (e)) ∧ V.cell? ⟨w3.heap.size + 1, 0, none⟩ = some (.slice b1 gs.length d1) ∧ V.cell? ⟨w3.heap.size + 1, 1, none⟩ = some (.slice b2 hs.length d2) ∧ V.cell? ⟨w3.heap.size + 1, 2, none⟩ = some (.int .i64 (s)) ∧ V.cell? ⟨w3.heap.size + 1, 3, none⟩ = some (.int .i64 (e))) (first | (with_reducible exact ⟨x0, x1, x2, x3, y0, y1, y2, y3⟩) | (with_reducible exact HX21.out) | (with_reducible exact HX22.out) | (with_reducible exact HX23.out) | (with_reducible exact HX24.out) | (with_reducible exact HX25.out)) (first | (go_at_call 13; (with_reducible refine (HAC.out WL.drew).mono ?_); rintro r w21 ⟨rfl, hb21⟩; have HB21 := Lib.hid (btr BDL.out hb21); have HX21 := Lib.hid (HC.out w21 HB21.out); clear hb21) | (go_at_call 14; (with_reducible refine (HAR.out w21).mono ?_); rintro r w22 ⟨rfl, hb22⟩; have HB22 := Lib.hid (btr HB21.out hb22); have HX22 := Lib.hid (HC.out w22 HB22.out); clear hb22) | (go_at_call 15; (with_reducible refine (HKY.out w22 HB22.out).mono ?_); rintro r w23 ⟨rfl, hb23⟩; have HB23 := Lib.hid (btr HB22.out hb23); have HX23 := Lib.hid (HC.out w23 HB23.out); clear hb23) | (go_at_call 16; (with_reducible refine (HTX.out w23 HB23.out).mono ?_); rintro r w24 ⟨rfl, hb24⟩; have HB24 := Lib.hid (btr HB23.out hb24); have HX24 := Lib.hid (HC.out w24 HB24.out); clear hb24) | (go_at_call 17; (with_reducible refine (HAW.out w24 HB24.out).mono ?_); rintro r w25 ⟨rfl, hb25⟩; have HB25 := Lib.hid (btr HB24.out hb25); have HX25 := Lib.hid (HC.out w25 HB25.out); clear hb25))
      all_goals
        have HBF := Lib.hid (FIN.out _ HB25.out)
        go_wp2
        go_ret
        exact ⟨rfl, HBF.out⟩
end Go.Proofs.YtbimncnicioagaaDoor.Al
