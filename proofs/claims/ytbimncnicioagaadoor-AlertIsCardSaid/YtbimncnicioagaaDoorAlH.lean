/- The law AlertMerge: at every two alerts that came in, where the tables lie as the program's text lays them. -/
import Derived.Test.YtbimncnicioagaaDoorAlMa
namespace Go.Proofs.YtbimncnicioagaaDoor.Al
open Go.RowKit Ch Jt Lb
set_option linter.unusedSimpArgs false
set_option linter.unusedVariables false

/-- an alert that came in -/
structure InA (w : World) (la na : Option Addr) (ts us : List FB) (s e : Int) : Prop where
  t : IsPrs w la ts.length ts
  u : IsPrs w na us.length us
  s1 : -9223372036854775808 ≤ s ∧ s ≤ 9223372036854775807
  e1 : -9223372036854775808 ≤ e ∧ e ≤ 9223372036854775807
theorem InA.go {w W : World} {la na : Option Addr} {ts us : List FB} {s e : Int} (h : InA w la na ts us s e) (hb : Below w.heap.size w W) : InA W la na ts us s e := ⟨IsPrs.go h.t hb, IsPrs.go h.u hb, h.s1, h.e1⟩
theorem mrg_rgt {n m : Nat} {s e s2 e2 : Int} (h1 : rgt n s e = true) (h2 : rgt m s2 e2 = true) : rgt m (mrg s e s2) e2 = true := by
  unfold rgt tim at *
  unfold mrg
  simp only [Bool.and_eq_true, decide_eq_true_eq] at *
  split <;> (refine ⟨⟨⟨?_, ?_⟩, ?_⟩, ?_⟩ <;> first | omega | (constructor <;> omega))
set_option maxRecDepth 100000 in
set_option maxHeartbeats 8000000 in
theorem merge_law (la na lb nb : Option Addr) (lc nc lc2 nc2 : Nat) (ts us ts2 us2 : List FB) (s e s2 e2 : Int) (w : World) (hE : Ev w) (hA : InA w la na ts us s e) (hB : InA w lb nb ts2 us2 s2 e2) :
    Calls Tryd.prog 4 #[agA (.slice la ts.length lc) (.slice na us.length nc) s e, agA (.slice lb ts2.length lc2) (.slice nb us2.length nc2) s2 e2] w fun r w' => r = .returned (.bool true) ∧ Below w.heap.size w w' := by
  obtain ⟨W1, hW1, hk1, hb1⟩ := new4 w (.slice la ts.length lc) (.slice na us.length nc) (.int .i64 s) (.int .i64 e) 24
  have hs1 : W1.heap.size = w.heap.size + 1 := by rw [hW1]; simp
  obtain ⟨W2, hW2, hk2, hb2⟩ := new4 W1 (.slice lb ts2.length lc2) (.slice nb us2.length nc2) (.int .i64 s2) (.int .i64 e2) 24
  have hs2 : W2.heap.size = w.heap.size + 1 + 1 := by rw [hW2]; simp [hs1]
  rw [hs1] at hk2
  have hb02 : Below w.heap.size w W2 := hb1.trans (hb2.mono (by omega))
  have hk1' := (hb2.block _ (by omega)).trans hk1
  obtain ⟨x0, x1, x2, x3⟩ := cells4 hk1'
  have HO1 := Lib.hid (Ours_c la na lc nc ts us s e W2 (hE.go hb02) (IsPrs.go hA.t hb02) (IsPrs.go hA.u hb02))
  have HE := Lib.hid hE
  have HK2 := Lib.hid hk2
  have HB02 := Lib.hid hb02
  have HW1 := Lib.hid hW1
  have HW2 := Lib.hid hW2
  have HBI := Lib.hid hB
  have HZ2 := Lib.hid hs2
  have ok1 := (okg_of ts).len
  have ok2 := (okg_of us).len
  have ok3 := (okg_of ts2).len
  have ok4 := (okg_of us2).len
  obtain ⟨hsl, hsu⟩ := hA.s1
  obtain ⟨hel, heu⟩ := hA.e1
  obtain ⟨hsl2, hsu2⟩ := hB.s1
  obtain ⟨hel2, heu2⟩ := hB.e1
  clear hW1 hW2 hk1 hk2 hb1 hb2 hs1 hs2 hb02 hk1' hE hA hB
  generalize ofA (prK ts 6) = gs at *
  generalize ofA (prK us 6) = hs at *
  go_enter Tryd.func4, Tryd.ntmps4
  go_upto_region 1 with (fail)
  rw [← HW1.out, ← HW2.out]
  go_wp2_with fail
  (with_reducible refine HO1.out.mono ?_)
  rintro r w3 ⟨a1, c1, a2, c2, b1, d1, b2, d2, rfl, hRA, hRB, hp1, hp2, hb3⟩
  obtain ⟨W3, hW3, hk3, hbW3⟩ := new4 w3 (.slice a1 gs.length c1) (.slice a2 hs.length c2) (.int .i64 s) (.int .i64 e) 29
  have hs3 : W3.heap.size = w3.heap.size + 1 := by rw [hW3]; simp
  obtain ⟨W4, hW4, hk4, hbW4⟩ := new4 W3 (.slice b1 gs.length d1) (.slice b2 hs.length d2) (.int .i64 s) (.int .i64 e) 24
  rw [hs3] at hk4
  have hb34 : Below w3.heap.size w3 W4 := btr hbW3 hbW4
  have hb24 := btr hb3 hb34
  have hk34 := (hbW4.block _ (by omega)).trans hk3
  have hk24 := (hb24.block _ (by have := HZ2.out; omega)).trans HK2.out
  obtain ⟨y0, y1, y2, y3⟩ := cells4 hk24
  have HB04 := Lib.hid (btr HB02.out hb24)
  have HO2 := Lib.hid (Ours_c lb nb lc2 nc2 ts2 us2 s2 e2 W4 (HE.out.go HB04.out) (IsPrs.go HBI.out.t HB04.out) (IsPrs.go HBI.out.u HB04.out))
  have HRA := Lib.hid (hRA.go hb34)
  have HRB := Lib.hid (hRB.go hb34)
  have HP1 := Lib.hid hp1
  have HP2 := Lib.hid hp2
  have HW3 := Lib.hid hW3
  have HW4 := Lib.hid hW4
  have HK3 := Lib.hid hk34
  have HK4 := Lib.hid hk4
  have hl4 : w3.heap.size + 1 + 1 ≤ W4.heap.size := by rw [hW4]; simp [hs3]
  have HL4 := Lib.hid hl4
  clear hl4
  clear hRA hRB hp1 hp2 hb3 hW3 hk3 hbW3 hs3 hW4 hk4 hbW4 hb34 hb24 hk34 hk24 HO1 HB02 HK2 HZ2 HBI x0 x1 x2 x3
  generalize ofA (prK ts2 6) = gs2 at *
  generalize ofA (prK us2 6) = hs2 at *
  go_upto_region 2 with (fail)
  rw [← HW3.out, ← HW4.out]
  go_wp2_with fail
  (with_reducible refine HO2.out.mono ?_)
  rintro r w5 ⟨a3, c3, a4, c4, b3, d3, b4, d4, rfl, hRA2, hRB2, hp3, hp4, hb5⟩
  obtain ⟨W5, hW5, hk5, hbW5⟩ := new4 w5 (.slice a3 gs2.length c3) (.slice a4 hs2.length c4) (.int .i64 s2) (.int .i64 e2) 29
  have hs5 : W5.heap.size = w5.heap.size + 1 := by rw [hW5]; simp
  obtain ⟨W6, hW6, hk6, hbW6⟩ := new4 W5 (.slice b3 gs2.length d3) (.slice b4 hs2.length d4) (.int .i64 s2) (.int .i64 e2) 24
  rw [hs5] at hk6
  have hb56 : Below w5.heap.size w5 W6 := btr hbW5 hbW6
  have hb46 := btr hb5 hb56
  have hk56 := (hbW6.block _ (by omega)).trans hk5
  have hk36 := (hb46.block _ (by have := HL4.out; omega)).trans HK3.out
  have hk46 := (hb46.block _ (by have := HL4.out; omega)).trans HK4.out
  have HB06 := Lib.hid (btr HB04.out hb46)
  have HRA := Lib.hid (HRA.out.go hb46)
  have HRB := Lib.hid (HRB.out.go hb46)
  have HRA2 := Lib.hid (hRA2.go hb56)
  have HRB2 := Lib.hid (hRB2.go hb56)
  have HP3 := Lib.hid hp3
  have HP4 := Lib.hid hp4
  have HW5 := Lib.hid hW5
  have HW6 := Lib.hid hW6
  have HL6 : Hid (w5.heap.size + 1 + 1 ≤ W6.heap.size ∧ w3.heap.size + 1 + 1 ≤ W6.heap.size) := by
    have h1 : w5.heap.size + 1 + 1 ≤ W6.heap.size := by rw [hW6]; simp [hs5]
    have h2 := hb46.size
    have h3 := HL4.out
    exact ⟨h1, by omega⟩
  have HK6 : Hid (W6.heap[w3.heap.size]? = some (obA (.slice a1 gs.length c1) (.slice a2 hs.length c2) s e) ∧ W6.heap[w3.heap.size + 1]? = some (obB (.slice b1 gs.length d1) (.slice b2 hs.length d2) s e) ∧ W6.heap[w5.heap.size]? = some (obA (.slice a3 gs2.length c3) (.slice a4 hs2.length c4) s2 e2) ∧ W6.heap[w5.heap.size + 1]? = some (obB (.slice b3 gs2.length d3) (.slice b4 hs2.length d4) s2 e2)) := ⟨hk36, hk46, hk56, hk6⟩
  clear hRA2 hRB2 hp3 hp4 hb5 hW5 hk5 hbW5 hs5 hW6 hk6 hbW6 hb56 hb46 hk56 hk36 hk46 HO2 HB04 HK3 HK4 HL4 y0 y1 y2 y3
  obtain ⟨q1, q2, q3, q4⟩ := HK6.out
  obtain ⟨x0, x1, x2, x3⟩ := cells4 q1
  obtain ⟨y0, y1, y2, y3⟩ := cells4 q3
  clear q1 q2 q3 q4
  go_upto_region 3 with (fail)
  rw [← HW5.out, ← HW6.out]
  go_wp2_with fail
  refine (Merge_c (.slice a1 gs.length c1) (.slice a2 hs.length c2) a3 a4 gs2.length c3 hs2.length c4 s e s2 e2 W6).mono ?_
  rintro r w7 ⟨rfl, hb7⟩
  obtain ⟨mz, hmz⟩ : ∃ mz, mz = mrg s e s2 := ⟨_, rfl⟩
  rw [← hmz]
  have HMZ := Lib.hid hmz
  clear hmz
  obtain ⟨W7, hW7, hk7, hbW7⟩ := new4 w7 (.slice a3 gs2.length c3) (.slice a4 hs2.length c4) (.int .i64 mz) (.int .i64 e2) 29
  have hb67 := btr hb7 hbW7
  have HW7 := Lib.hid hW7
  have HB07 := Lib.hid (btr HB06.out hb67)
  have HS : Hid (∀ V, Below W7.heap.size W7 V → (V.heap[w7.heap.size]? = some (obA (.slice a3 gs2.length c3) (.slice a4 hs2.length c4) mz e2) ∧ V.heap[w3.heap.size + 1]? = some (obB (.slice b1 gs.length d1) (.slice b2 hs.length d2) s e) ∧ V.heap[w5.heap.size + 1]? = some (obB (.slice b3 gs2.length d3) (.slice b4 hs2.length d4) s2 e2) ∧ V.heap[w5.heap.size]? = some (obA (.slice a3 gs2.length c3) (.slice a4 hs2.length c4) s2 e2)) ∧ Rd2 (.slice a3 gs2.length c3) (.slice a4 hs2.length c4) gs2 hs2 V ∧ Rd2 (.slice b3 gs2.length d3) (.slice b4 hs2.length d4) gs2 hs2 V ∧ Below w.heap.size w V) := fun V hV => by
    obtain ⟨q1, q2, q3, q4⟩ := HK6.out
    obtain ⟨l1, l2⟩ := HL6.out
    have hb := btr hb67 hV
    have hl7 : w7.heap.size < W7.heap.size := (Array.getElem?_eq_some_iff.1 hk7).1
    exact ⟨⟨(hV.block _ hl7).trans hk7, (hb.block _ (by omega)).trans q2, (hb.block _ (by omega)).trans q4, (hb.block _ (by omega)).trans q3⟩, HRA2.out.go hb, HRB2.out.go hb, btr HB06.out hb⟩
  clear hb7 hW7 hk7 hbW7 hb67 x0 x1 x2 x3 y0 y1 y2 y3 HB06 HK6
  go_upto_region 4 with (fail)
  rw [← HW7.out]
  have HC : Hid (∀ V, Below W7.heap.size W7 V → V.cell? ⟨w7.heap.size, 0, none⟩ = some (.slice a3 gs2.length c3) ∧ V.cell? ⟨w7.heap.size, 1, none⟩ = some (.slice a4 hs2.length c4) ∧ V.cell? ⟨w7.heap.size, 2, none⟩ = some (.int .i64 (mz)) ∧ V.cell? ⟨w7.heap.size, 3, none⟩ = some (.int .i64 (e2)) ∧ V.cell? ⟨w3.heap.size + 1, 0, none⟩ = some (.slice b1 gs.length d1) ∧ V.cell? ⟨w3.heap.size + 1, 1, none⟩ = some (.slice b2 hs.length d2) ∧ V.cell? ⟨w3.heap.size + 1, 2, none⟩ = some (.int .i64 (s)) ∧ V.cell? ⟨w3.heap.size + 1, 3, none⟩ = some (.int .i64 (e)) ∧ V.cell? ⟨w5.heap.size + 1, 0, none⟩ = some (.slice b3 gs2.length d3) ∧ V.cell? ⟨w5.heap.size + 1, 1, none⟩ = some (.slice b4 hs2.length d4) ∧ V.cell? ⟨w5.heap.size + 1, 2, none⟩ = some (.int .i64 (s2)) ∧ V.cell? ⟨w5.heap.size + 1, 3, none⟩ = some (.int .i64 (e2))) := fun V hV => by
    obtain ⟨⟨q1, q2, q3, _⟩, _⟩ := HS.out V hV
    obtain ⟨x0, x1, x2, x3⟩ := cells4 q1
    obtain ⟨y0, y1, y2, y3⟩ := cells4 q2
    obtain ⟨z0, z1, z2, z3⟩ := cells4 q3
    exact ⟨x0, x1, x2, x3, y0, y1, y2, y3, z0, z1, z2, z3⟩
  have HPA := Lib.hid (fun V (hV : Below W7.heap.size W7 V) => PlainA_c a3 a4 c3 c4 gs2 hs2 mz e2 V (HS.out V hV).2.1 HP3.out HP4.out (by omega) (by omega))
  have HMR : Hid (∀ V, Calls Tryd.prog 19 #[agA (.slice b1 gs.length d1) (.slice b2 hs.length d2) s e, agA (.slice b3 gs2.length d3) (.slice b4 hs2.length d4) s2 e2] V fun r w' => r = .returned (agA (.slice b3 gs2.length d3) (.slice b4 hs2.length d4) mz e2) ∧ Below V.heap.size V w') := fun V => by
    have := Merge_r (.slice b1 gs.length d1) (.slice b2 hs.length d2) b3 b4 gs2.length d3 hs2.length d4 s e s2 e2 V
    rwa [← HMZ.out] at this
  have HSM := Lib.hid (fun V t1 f1 t2 f2 h1 h2 => Same_c t1 t2 b3 b4 f1 f2 d3 d4 gs2 hs2 mz e2 V h1 h2 (by omega) (by omega))
  have BD := Lib.hid (bdr W7)
  obtain ⟨x0, x1, x2, x3, y0, y1, y2, y3, z0, z1, z2, z3⟩ := HC.out _ (bdr W7)
  go_region_held3 (fun V => V.cell? ⟨w7.heap.size, 0, none⟩ = some (.slice a3 gs2.length c3) ∧ V.cell? ⟨w7.heap.size, 1, none⟩ = some (.slice a4 hs2.length c4) ∧ V.cell? ⟨w7.heap.size, 2, none⟩ = some (.int .i64 (mz)) ∧ V.cell? ⟨w7.heap.size, 3, none⟩ = some (.int .i64 (e2)) ∧ V.cell? ⟨w3.heap.size + 1, 0, none⟩ = some (.slice b1 gs.length d1) ∧ V.cell? ⟨w3.heap.size + 1, 1, none⟩ = some (.slice b2 hs.length d2) ∧ V.cell? ⟨w3.heap.size + 1, 2, none⟩ = some (.int .i64 (s)) ∧ V.cell? ⟨w3.heap.size + 1, 3, none⟩ = some (.int .i64 (e)) ∧ V.cell? ⟨w5.heap.size + 1, 0, none⟩ = some (.slice b3 gs2.length d3) ∧ V.cell? ⟨w5.heap.size + 1, 1, none⟩ = some (.slice b4 hs2.length d4) ∧ V.cell? ⟨w5.heap.size + 1, 2, none⟩ = some (.int .i64 (s2)) ∧ V.cell? ⟨w5.heap.size + 1, 3, none⟩ = some (.int .i64 (e2)))
    (first | (with_reducible exact ⟨x0, x1, x2, x3, y0, y1, y2, y3, z0, z1, z2, z3⟩) | (with_reducible exact HX8.out) | (with_reducible exact HX9.out) | (with_reducible exact HX10.out))
    (first | (go_at_call 11; (with_reducible refine (HPA.out _ (bdr W7)).mono ?_); rintro r w8 ⟨t1, f1, t2, f2, rfl, hrd, hb8, hp5, hp6⟩; have HB8 := Lib.hid (btr BD.out hb8); have HX8 := Lib.hid (HC.out w8 HB8.out); have HR8 := Lib.hid hrd; clear hrd hb8 hp5 hp6) | (go_at_call 19; (with_reducible refine (HMR.out w8).mono ?_); rintro r w9 ⟨rfl, hb9⟩; have HB9 := Lib.hid (btr HB8.out hb9); have HX9 := Lib.hid (HC.out w9 HB9.out); have HR9 := Lib.hid (HR8.out.go hb9); clear hb9) | (go_at_call 10; (with_reducible refine (HSM.out w9 t1 f1 t2 f2 HR9.out (HS.out w9 HB9.out).2.2.1).mono ?_); rintro r w10 ⟨rfl, hb10⟩; have HB10 := Lib.hid (btr HB9.out hb10); have HX10 := Lib.hid (HC.out w10 HB10.out); clear hb10))
  all_goals
    clear x0 x1 x2 x3 y0 y1 y2 y3 z0 z1 z2 z3
    obtain ⟨x0, x1, x2, x3, y0, y1, y2, y3, z0, z1, z2, z3⟩ := HX10.out
    have HAW := Lib.hid (fun V (hV : Below W7.heap.size W7 V) => awake_c V (HE.out.go (HS.out V hV).2.2.2))
    have FIN := Lib.hid (fun V (hV : Below W7.heap.size W7 V) => (HS.out V hV).2.2.2)
    cases h1 : rgt gs.length s e with
    | false =>
      go_wp2_with fail
      refine (Right_r b1 gs.length d1 (.slice b2 hs.length d2) s e w10).mono ?_
      rintro r w11 ⟨rfl, hb11⟩
      rw [h1]
      have HB11 := Lib.hid (btr HB10.out hb11)
      clear hb11
      go_wp2_with fail
      refine (HAW.out w11 HB11.out).mono ?_
      rintro r w12 ⟨rfl, hb12⟩
      have HB12 := Lib.hid (FIN.out _ (btr HB11.out hb12))
      clear hb12
      go_wp2
      go_ret
      exact ⟨rfl, HB12.out⟩
    | true =>
      cases h2 : rgt gs2.length s2 e2 with
      | false =>
        go_wp2_with fail
        refine (Right_r b1 gs.length d1 (.slice b2 hs.length d2) s e w10).mono ?_
        rintro r w11 ⟨rfl, hb11⟩
        rw [h1]
        have HB11 := Lib.hid (btr HB10.out hb11)
        obtain ⟨x0, x1, x2, x3, y0, y1, y2, y3, z0, z1, z2, z3⟩ := HC.out w11 HB11.out
        clear hb11
        go_wp2_with fail
        refine (Right_r b3 gs2.length d3 (.slice b4 hs2.length d4) s2 e2 w11).mono ?_
        rintro r w12 ⟨rfl, hb12⟩
        rw [h2]
        have HB12 := Lib.hid (btr HB11.out hb12)
        clear hb12
        go_wp2_with fail
        refine (HAW.out w12 HB12.out).mono ?_
        rintro r w13 ⟨rfl, hb13⟩
        have HB13 := Lib.hid (FIN.out _ (btr HB12.out hb13))
        clear hb13
        go_wp2
        go_ret
        exact ⟨rfl, HB13.out⟩
      | true =>
        have h3 : rgtE gs2.length mz e2 = 0 := by
          have := mrg_rgt h1 h2
          rw [← HMZ.out] at this
          unfold rgtE
          rw [this]; rfl
        go_wp2_with fail
        refine (Right_r b1 gs.length d1 (.slice b2 hs.length d2) s e w10).mono ?_
        rintro r w11 ⟨rfl, hb11⟩
        rw [h1]
        have HB11 := Lib.hid (btr HB10.out hb11)
        obtain ⟨x0, x1, x2, x3, y0, y1, y2, y3, z0, z1, z2, z3⟩ := HC.out w11 HB11.out
        clear hb11
        go_wp2_with fail
        refine (Right_r b3 gs2.length d3 (.slice b4 hs2.length d4) s2 e2 w11).mono ?_
        rintro r w12 ⟨rfl, hb12⟩
        rw [h2]
        have HB12 := Lib.hid (btr HB11.out hb12)
        obtain ⟨x0, x1, x2, x3, y0, y1, y2, y3, z0, z1, z2, z3⟩ := HC.out w12 HB12.out
        clear hb12
        go_wp2_with fail
        refine (Right_c a3 gs2.length c3 (.slice a4 hs2.length c4) mz e2 w12 (by omega)).mono ?_
        rintro r w13 ⟨rfl, hb13⟩
        rw [h3]
        have HB13 := Lib.hid (btr HB12.out hb13)
        clear hb13
        go_wp2_with fail
        refine (HAW.out w13 HB13.out).mono ?_
        rintro r w14 ⟨rfl, hb14⟩
        have HB14 := Lib.hid (FIN.out _ (btr HB13.out hb14))
        clear hb14
        go_wp2
        go_ret
        exact ⟨rfl, HB14.out⟩
end Go.Proofs.YtbimncnicioagaaDoor.Al
