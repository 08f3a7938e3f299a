/- LabelText's walk: for every two slices of pairs that came in, where the tables lie as the program's text lays them. -/
import Derived.Test.YtcknlnphgndaoaaGreatDoorLbYa
import Derived.Deep.RegionHeld3
namespace Go.Proofs.YtcknlnphgndaoaaGreatDoor.Lb
open Go.RowKit Ch Jt
set_option linter.unusedSimpArgs false
set_option linter.unusedVariables false

theorem Pl.cases {ao : Option Addr} (h : Pl ao) : Pl ao := h
/-- three sets' boxes, the sets -/
structure LT (w : World) (p q r : Nat) (a1 a2 a3 : Option Addr) (c1 c2 c3 : Nat) (gs hs : List FB) (V : World) : Prop where
  b : Below w.heap.size w V
  k1 : V.heap[p]? = some (.cells #[.slice a1 gs.length c1] 27 (0, 0))
  k2 : V.heap[q]? = some (.cells #[.slice a2 hs.length c2] 27 (0, 0))
  k3 : V.heap[r]? = some (.cells #[.slice a3 gs.length c3] 27 (0, 0))
  r1 : RdF (.slice a1 gs.length c1) gs V
  r2 : RdF (.slice a2 hs.length c2) hs V
  r3 : RdF (.slice a3 gs.length c3) gs V
theorem LT.go {w : World} {p q r : Nat} {a1 a2 a3 : Option Addr} {c1 c2 c3 : Nat} {gs hs : List FB} {V V' : World} (h : LT w p q r a1 a2 a3 c1 c2 c3 gs hs V) (hb : Below V.heap.size V V') : LT w p q r a1 a2 a3 c1 c2 c3 gs hs V' :=
  ⟨h.b.trans (hb.mono h.b.size), (hb.block _ (Array.getElem?_eq_some_iff.1 h.k1).1).trans h.k1, (hb.block _ (Array.getElem?_eq_some_iff.1 h.k2).1).trans h.k2, (hb.block _ (Array.getElem?_eq_some_iff.1 h.k3).1).trans h.k3, h.r1.go hb, h.r2.go hb, h.r3.go hb⟩
theorem LT.c {w : World} {p q r : Nat} {a1 a2 a3 : Option Addr} {c1 c2 c3 : Nat} {gs hs : List FB} {V : World} (h : LT w p q r a1 a2 a3 c1 c2 c3 gs hs V) : V.cell? ⟨p, 0, none⟩ = some (.slice a1 gs.length c1) ∧ V.cell? ⟨q, 0, none⟩ = some (.slice a2 hs.length c2) ∧ V.cell? ⟨r, 0, none⟩ = some (.slice a3 gs.length c3) :=
  ⟨cell_of_row _ _ 0 _ _ _ h.k1, cell_of_row _ _ 0 _ _ _ h.k2, cell_of_row _ _ 0 _ _ _ h.k3⟩
theorem isp_go {w W : World} {a : Option Addr} {n : Nat} {ts : List FB} (h : IsPrs w a n ts) (hb : Below w.heap.size w W) : IsPrs W a n ts := by
  refine ⟨h.1, h.2.1, h.2.2.1, fun hne => ?_⟩
  obtain ⟨g, off, rfl, hg, hat⟩ := h.2.2.2 hne
  refine ⟨g, off, rfl, Nat.lt_of_lt_of_le hg hb.size, fun i hi => ?_⟩
  obtain ⟨x, y⟩ := hat i hi
  exact ⟨(hb.cell (p := ⟨g, off + i * 2, none⟩) hg).trans x, (hb.cell (p := ⟨g, off + i * 2 + 1, none⟩) hg).trans y⟩
theorem new1 (w : World) (v : Value) (T : TypeId) : ∃ W, W = w.alloc (.cells #[v] T) ∧ W.heap[w.heap.size]? = some (.cells #[v] T (0, 0)) ∧ Below w.heap.size w W := ⟨_, rfl, heap_alloc_new w _, (Below.refl _ _).alloc (Nat.le_refl _) _⟩
theorem btr {a b d : World} (h : Below a.heap.size a b) (k : Below b.heap.size b d) : Below a.heap.size a d := h.trans (k.mono h.size)
set_option maxRecDepth 100000 in
set_option maxHeartbeats 4000000 in
theorem walkT (a : Option Addr) (len cap : Nat) (ts : List FB) (b : Option Addr) (len2 cap2 : Nat) (us : List FB) (w : World) (hP : IsPrs w a len ts) (hQ : IsPrs w b len2 us) (hE : Ev w) (hE2 : Env w) :
    Calls Tryz.prog 3 #[.slice a len cap, .slice b len2 cap2] w fun e w' => e = .returned (.bool true) ∧ Below w.heap.size w w' := by
  obtain rfl := hP.1
  obtain rfl := hQ.1
  have HPC := Lib.hid (Pairs_c a cap ts w hP)
  have HQ := Lib.hid hQ
  have HE := Lib.hid hE
  have HE2 := Lib.hid hE2
  clear hP hQ hE hE2
  have hf6 := prK_len ts (Nat.le_refl 6)
  have hh6 := prK_len us (Nat.le_refl 6)
  have HSF : Hid (∀ x ∈ prK ts 6, x.1.size ≤ 20 ∧ x.2.size ≤ 30) := fun x hx => prK_short hx
  have HSH : Hid (∀ x ∈ prK us 6, x.1.size ≤ 20 ∧ x.2.size ≤ 30) := fun x hx => prK_short hx
  have HQC : Hid (∀ W, Below w.heap.size w W → Calls Tryz.prog 4 #[.slice b us.length cap2] W fun e w' => ∃ vo vw, e = .returned (.tuple #[vo, vw]) ∧ OwF 39 W.heap.size vo (prK us 6) w' ∧ Below W.heap.size W w') := fun W hb => (Pairs_c b cap2 us W (isp_go HQ.out hb)).mono fun e V ⟨vo, vw, h1, h2, _, h4⟩ => ⟨vo, vw, h1, h2, h4⟩
  clear HQ
  revert HPC hf6 HSF HQC hh6 HSH
  generalize prK ts 6 = fs
  generalize prK us 6 = hs
  intro HPC hf6 hh6 HSF HSH HQC
  go_enter Tryz.func3, Tryz.ntmps3
  go_wp2_with fail
  refine HPC.out.mono ?_
  rintro e w1 ⟨vo, vw, rfl, ho, _, hb1⟩
  have HB1 := Lib.hid hb1
  have HR1 := Lib.hid ho.rd
  obtain ⟨ao, cpo, hv⟩ := own_lenF ho
  subst hv
  clear hb1 ho HPC
  go_wp2_with fail
  refine (HQC.out w1 HB1.out).mono ?_
  rintro e w2 ⟨vo2, vw2, rfl, ho, hb2⟩
  have HB2 : Hid (Below w.heap.size w w2) := btr HB1.out hb2
  have HR2 := Lib.hid (HR1.out.go hb2)
  have HS2 := Lib.hid ho.rd
  obtain ⟨ao2, cpo2, hv⟩ := own_lenF ho
  subst hv
  clear hb2 ho HQC HR1
  have HOF := Lib.hid (Of_c (.slice ao fs.length cpo) fs w2 (HE.out.go HB2.out) HR2.out (by omega) (fun x hx => by have := HSF.out x hx; exact ⟨by omega, by omega⟩))
  go_wp2_with fail
  (with_reducible refine HOF.out.mono ?_)
  intro e w3 h3
  obtain ⟨a3, c3, hp3, rfl, hr3, hb3⟩ := of_uni h3
  obtain ⟨W3, hW3, hk3, hbw3⟩ := new1 w3 (.slice a3 (ofA fs).length c3) 27
  have HB3 : Hid (Below w.heap.size w W3) := btr HB2.out (btr hb3 hbw3)
  have HS3 := Lib.hid ((HS2.out.go hb3).go hbw3)
  have HG3 := Lib.hid (hr3.go hbw3)
  have HW3 := Lib.hid hW3
  have HK3 := Lib.hid hk3
  have HP3 := Lib.hid hp3
  clear h3 hr3 hb3 hW3 hk3 hbw3 hp3 HOF HS2 HR2
  have HOF := Lib.hid (Of_c (.slice ao2 hs.length cpo2) hs W3 (HE.out.go HB3.out) HS3.out (by omega) (fun x hx => by have := HSH.out x hx; exact ⟨by omega, by omega⟩))
  go_wp2_with fail
  rw [← HW3.out]
  (with_reducible refine HOF.out.mono ?_)
  intro e w4 h4
  obtain ⟨a4, c4, hp4, rfl, hr4, hb4⟩ := of_uni h4
  obtain ⟨W4, hW4, hk4, hbw4⟩ := new1 w4 (.slice a4 (ofA hs).length c4) 27
  have HB4 : Hid (Below w.heap.size w W4) := btr HB3.out (btr hb4 hbw4)
  have HG4 := Lib.hid ((HG3.out.go hb4).go hbw4)
  have HH4 := Lib.hid (hr4.go hbw4)
  have HW4 := Lib.hid hW4
  have HK4 := Lib.hid hk4
  have HJ4 : Hid (W4.heap[w3.heap.size]? = some (.cells #[.slice a3 (ofA fs).length c3] 27 (0, 0))) := ((btr hb4 hbw4).block _ (Array.getElem?_eq_some_iff.1 HK3.out).1).trans HK3.out
  have HP4 := Lib.hid hp4
  have hjw := (hb4.block _ (Array.getElem?_eq_some_iff.1 HK3.out).1).trans HK3.out
  have dj := cell_of_row _ _ 0 _ _ _ hjw
  have hjl : w3.heap.size < w4.heap.size := (Array.getElem?_eq_some_iff.1 hjw).1
  have hjn : w3.heap.size ≠ w4.heap.size := by omega
  clear hjw
  clear h4 hr4 hb4 hW4 hk4 hbw4 hp4 HOF HS3 HG3 HK3
  by_cases hz1 : ofZ fs = 0
  · by_cases hz2 : ofZ hs = 0
    · have HI1 := Lib.hid (isSet_of hz1 hf6 HSF.out)
      have HI2 := Lib.hid (isSet_of hz2 hh6 HSH.out)
      rw [hz1, hz2]
      clear hz1 hz2
      clear HW3
      revert HG4 HH4 HW4 HK4 HJ4 dj HI1 HI2
      generalize ofA fs = gs
      generalize ofA hs = ks
      intro HG4 HH4 HW4 HK4 HJ4 dj HI1 HI2
      have hg6 := HI1.out.few
      have hk6 := HI2.out.few
      have HST := Lib.hid (fun W h1 h2 => String_c a3 c3 gs W h1 h2 (by omega) (fun x hx => by have := HI1.out.short x hx; exact ⟨by omega, by omega⟩) (fun x hx => (bad_vld (HI1.out.good x hx)).1))
      have HST2 := Lib.hid (fun W h1 h2 => String_c a4 c4 ks W h1 h2 (by omega) (fun x hx => by have := HI2.out.short x hx; exact ⟨by omega, by omega⟩) (fun x hx => (bad_vld (HI2.out.good x hx)).1))
      have HPA := Lib.hid (fun W h1 h2 => Parse_s gs W h1 h2 HI1.out)
      have HSMu := Lib.hid (fun a5 c5 W h1 h2 => Same_c a5 a3 c5 c3 gs gs W h1 h2 (by omega) (by omega))
      rw [decide_eq_true (rfl : gs = gs)] at HSMu
      have HSM := Lib.hid (fun W h1 h2 => Same_c a3 a4 c3 c4 gs ks W h1 h2 (by omega) (by omega))
      have HPL1 := Lib.hid (fun W h1 => Plain_c a3 c3 gs W h1 HP3.out (by omega))
      have HPL2 := Lib.hid (fun W h1 => Plain_c a4 c4 ks W h1 HP4.out (by omega))
      have HRS := Lib.hid (fun a5 a6 c5 c6 W h1 h2 => RSame_b a5 a6 c5 c6 gs ks W h1 h2 (by omega) (by omega))
      have HAW := Lib.hid (fun W h => awake_c W h)
      have hq : ((Jt.mkS (txtL gs)).toList == (Jt.mkS (txtL ks)).toList) = decide (gs = ks) := by
        rw [Lib.toList_data, Lib.toList_data]
        show (txtL gs == txtL ks) = _
        by_cases he : gs = ks
        · rw [he, decide_eq_true rfl]; simp
        · rw [decide_eq_false he]; exact beq_eq_false_iff_ne.2 (fun e => he (txt_inj HI1.out.good HI2.out.good e))
      revert HST HST2 HPA HSM HRS hq
      generalize Jt.mkS (txtL gs) = tx
      generalize Jt.mkS (txtL ks) = ty
      generalize decide (gs = ks) = same
      intro HST HST2 HPA HSM HRS hq
      go_wp2_with fail
      rw [← HW4.out]
      (with_reducible refine (HST.out W4 (HE.out.go HB4.out) HG4.out).mono ?_)
      rintro e w5 ⟨rfl, hb5⟩
      have HB5 : Hid (Below w.heap.size w w5) := btr HB4.out hb5
      have HJ5 := Lib.hid ((hb5.block _ (Array.getElem?_eq_some_iff.1 HJ4.out).1).trans HJ4.out)
      have HK5 := Lib.hid ((hb5.block _ (Array.getElem?_eq_some_iff.1 HK4.out).1).trans HK4.out)
      have HG5 := Lib.hid (HG4.out.go hb5)
      have HH5 := Lib.hid (HH4.out.go hb5)
      clear hb5 HW4 HG4 HH4 HJ4 HK4
      go_wp2_with fail
      (with_reducible refine (HPA.out w5 (HE.out.go HB5.out) (HE2.out.go HB5.out)).mono ?_)
      rintro e w6 ⟨a5, c5, rfl, hr5, hb6⟩
      obtain ⟨W6, hW6, hk6', hbw6⟩ := new1 w6 (.slice a5 gs.length c5) 27
      have hbb := btr hb6 hbw6
      have HLT6 : Hid (LT w w3.heap.size w4.heap.size w6.heap.size a3 a4 a5 c3 c4 c5 gs ks W6.drew) := LT.go ⟨btr HB5.out hbb, (hbb.block _ (Array.getElem?_eq_some_iff.1 HJ5.out).1).trans HJ5.out, (hbb.block _ (Array.getElem?_eq_some_iff.1 HK5.out).1).trans HK5.out, hk6', HG5.out.go hbb, HH5.out.go hbb, hr5.go hbw6⟩ (bdrN W6 1)
      have HW6 := Lib.hid hW6
      clear hb6 hW6 hk6' hbw6 hbb hr5 HB5 HJ5 HK5 HG5 HH5
      cases same with
      | true =>
        go_wp2_with fail
        rw [← HW6.out]
        obtain ⟨e6a, e6b, e6c⟩ := HLT6.out.c
        go_region_held3 (fun V => V.cell? ⟨w3.heap.size, 0, none⟩ = some (.slice a3 gs.length c3) ∧ V.cell? ⟨w4.heap.size, 0, none⟩ = some (.slice a4 ks.length c4) ∧ V.cell? ⟨w6.heap.size, 0, none⟩ = some (.slice a5 gs.length c5))
          (first | (with_reducible exact HLT6.out.c) | (with_reducible exact HLT7.out.c) | (with_reducible exact HLT8.out.c) | (with_reducible exact HLT9.out.c) | (with_reducible exact HLT10.out.c) | (with_reducible exact HLT11.out.c) | (with_reducible exact HLT12.out.c) | (with_reducible exact HLT13.out.c) | (with_reducible exact HLT14.out.c) | (with_reducible exact HLT15.out.c) | (with_reducible exact HLT16.out.c))
          (first
            | (go_at_call 9; (with_reducible refine (HSMu.out a5 c5 W6.drew HLT6.out.r3 HLT6.out.r1).mono ?_); rintro e w7 ⟨rfl, hb7⟩; have HLT7 := Lib.hid (HLT6.out.go hb7); obtain ⟨e7a, e7b, e7c⟩ := HLT7.out.c; clear hb7)
            | (go_at_call 9; (with_reducible refine (HSM.out w7 HLT7.out.r1 HLT7.out.r2).mono ?_); rintro e w8 ⟨rfl, hb8⟩; have HLT8 := Lib.hid (HLT7.out.go hb8); obtain ⟨e8a, e8b, e8c⟩ := HLT8.out.c; clear hb8)
            | (go_at_call 8; (with_reducible refine (HST.out w8 (HE.out.go HLT8.out.b) HLT8.out.r1).mono ?_); rintro e w9 ⟨rfl, hb9⟩; have HLT9 := Lib.hid (HLT8.out.go hb9); obtain ⟨e9a, e9b, e9c⟩ := HLT9.out.c; clear hb9)
            | (go_at_call 8; (with_reducible refine (HST2.out w9 (HE.out.go HLT9.out.b) HLT9.out.r2).mono ?_); rintro e w10 ⟨rfl, hb10⟩; have HLT10 := Lib.hid (HLT9.out.go hb10); obtain ⟨e10a, e10b, e10c⟩ := HLT10.out.c; clear hb10)
            | (go_at_call 9; (with_reducible refine (HSM.out w10 HLT10.out.r1 HLT10.out.r2).mono ?_); rintro e w11 ⟨rfl, hb11⟩; have HLT11 := Lib.hid (HLT10.out.go hb11); obtain ⟨e11a, e11b, e11c⟩ := HLT11.out.c; clear hb11)
            | (go_at_call 11; (with_reducible refine (HPL1.out w11 HLT11.out.r1).mono ?_); rintro e w12 ⟨v12, rfl, ho12, hb12⟩; obtain ⟨a12, c12, hv12⟩ := own_lenF ho12; subst hv12; have HX12 := Lib.hid ho12.rd; clear ho12; have HLT12 := Lib.hid (HLT11.out.go hb12); obtain ⟨e12a, e12b, e12c⟩ := HLT12.out.c; clear hb12)
            | (go_at_call 11; (with_reducible refine (HPL2.out w12 HLT12.out.r2).mono ?_); rintro e w13 ⟨v13, rfl, ho13, hb13⟩; obtain ⟨a13, c13, hv13⟩ := own_lenF ho13; subst hv13; have HX13 := Lib.hid (HX12.out.go hb13); have HY13 := Lib.hid ho13.rd; clear ho13; have HLT13 := Lib.hid (HLT12.out.go hb13); obtain ⟨e13a, e13b, e13c⟩ := HLT13.out.c; clear hb13)
            | (go_at_call 10; (with_reducible refine (HRS.out a12 a13 c12 c13 w13 HX13.out HY13.out).mono ?_); rintro e w14 ⟨rfl, hb14⟩; have HLT14 := Lib.hid (HLT13.out.go hb14); obtain ⟨e14a, e14b, e14c⟩ := HLT14.out.c; clear hb14)
            | (go_at_call 6; (with_reducible refine (HAW.out w14 (HE.out.go HLT14.out.b)).mono ?_); rintro e w15 ⟨rfl, hb15⟩; have HLT15 := Lib.hid (HLT14.out.go hb15); obtain ⟨e15a, e15b, e15c⟩ := HLT15.out.c; clear hb15))
        all_goals
          go_wp2
          go_ret
          exact ⟨rfl, HLT15.out.b⟩
      | false =>
        go_wp2_with fail
        rw [← HW6.out]
        obtain ⟨e6a, e6b, e6c⟩ := HLT6.out.c
        go_region_held3 (fun V => V.cell? ⟨w3.heap.size, 0, none⟩ = some (.slice a3 gs.length c3) ∧ V.cell? ⟨w4.heap.size, 0, none⟩ = some (.slice a4 ks.length c4) ∧ V.cell? ⟨w6.heap.size, 0, none⟩ = some (.slice a5 gs.length c5))
          (first | (with_reducible exact HLT6.out.c) | (with_reducible exact HLT7.out.c) | (with_reducible exact HLT8.out.c) | (with_reducible exact HLT9.out.c) | (with_reducible exact HLT10.out.c) | (with_reducible exact HLT11.out.c) | (with_reducible exact HLT12.out.c) | (with_reducible exact HLT13.out.c) | (with_reducible exact HLT14.out.c) | (with_reducible exact HLT15.out.c) | (with_reducible exact HLT16.out.c))
          (first
            | (go_at_call 9; (with_reducible refine (HSMu.out a5 c5 W6.drew HLT6.out.r3 HLT6.out.r1).mono ?_); rintro e w7 ⟨rfl, hb7⟩; have HLT7 := Lib.hid (HLT6.out.go hb7); obtain ⟨e7a, e7b, e7c⟩ := HLT7.out.c; clear hb7)
            | (go_at_call 9; (with_reducible refine (HSM.out w7 HLT7.out.r1 HLT7.out.r2).mono ?_); rintro e w8 ⟨rfl, hb8⟩; have HLT8 := Lib.hid (HLT7.out.go hb8); obtain ⟨e8a, e8b, e8c⟩ := HLT8.out.c; clear hb8)
            | (go_at_call 8; (with_reducible refine (HST.out w8 (HE.out.go HLT8.out.b) HLT8.out.r1).mono ?_); rintro e w9 ⟨rfl, hb9⟩; have HLT9 := Lib.hid (HLT8.out.go hb9); obtain ⟨e9a, e9b, e9c⟩ := HLT9.out.c; clear hb9)
            | (go_at_call 8; (with_reducible refine (HST2.out w9 (HE.out.go HLT9.out.b) HLT9.out.r2).mono ?_); rintro e w10 ⟨rfl, hb10⟩; have HLT10 := Lib.hid (HLT9.out.go hb10); obtain ⟨e10a, e10b, e10c⟩ := HLT10.out.c; clear hb10)
            | (go_at_call 9; (with_reducible refine (HSM.out w10 HLT10.out.r1 HLT10.out.r2).mono ?_); rintro e w11 ⟨rfl, hb11⟩; have HLT11 := Lib.hid (HLT10.out.go hb11); obtain ⟨e11a, e11b, e11c⟩ := HLT11.out.c; clear hb11)
            | (go_at_call 11; (with_reducible refine (HPL1.out w11 HLT11.out.r1).mono ?_); rintro e w12 ⟨v12, rfl, ho12, hb12⟩; obtain ⟨a12, c12, hv12⟩ := own_lenF ho12; subst hv12; have HX12 := Lib.hid ho12.rd; clear ho12; have HLT12 := Lib.hid (HLT11.out.go hb12); obtain ⟨e12a, e12b, e12c⟩ := HLT12.out.c; clear hb12)
            | (go_at_call 11; (with_reducible refine (HPL2.out w12 HLT12.out.r2).mono ?_); rintro e w13 ⟨v13, rfl, ho13, hb13⟩; obtain ⟨a13, c13, hv13⟩ := own_lenF ho13; subst hv13; have HX13 := Lib.hid (HX12.out.go hb13); have HY13 := Lib.hid ho13.rd; clear ho13; have HLT13 := Lib.hid (HLT12.out.go hb13); obtain ⟨e13a, e13b, e13c⟩ := HLT13.out.c; clear hb13)
            | (go_at_call 10; (with_reducible refine (HRS.out a12 a13 c12 c13 w13 HX13.out HY13.out).mono ?_); rintro e w14 ⟨rfl, hb14⟩; have HLT14 := Lib.hid (HLT13.out.go hb14); obtain ⟨e14a, e14b, e14c⟩ := HLT14.out.c; clear hb14)
            | (go_at_call 6; (with_reducible refine (HAW.out w14 (HE.out.go HLT14.out.b)).mono ?_); rintro e w15 ⟨rfl, hb15⟩; have HLT15 := Lib.hid (HLT14.out.go hb15); obtain ⟨e15a, e15b, e15c⟩ := HLT15.out.c; clear hb15))
        all_goals
          go_wp2
          go_ret
          exact ⟨rfl, HLT15.out.b⟩
    · have hne : (ofZ hs != 0) = true := by simp [hz2]
      have hne2 : (ofZ hs == 0) = false := beq_eq_false_iff_ne.2 hz2
      rw [hz1]
      clear hz1 hz2
      have HAW := Lib.hid (awake_c W4 (HE.out.go HB4.out))
      clear HW3
      revert HW4
      generalize ofA fs = gs
      generalize ofA hs = ks
      generalize ofZ hs = z2 at hne hne2 ⊢
      intro HW4
      go_wp2_with fail
      rw [← HW4.out]
      refine HAW.out.mono ?_
      rintro e w5 ⟨rfl, hb5⟩
      have HB5 : Hid (Below w.heap.size w w5) := btr HB4.out hb5
      clear hb5
      go_wp2
      go_ret
      exact ⟨rfl, HB5.out⟩
  · have hne : (ofZ fs != 0) = true := by simp [hz1]
    have hne2 : (ofZ fs == 0) = false := beq_eq_false_iff_ne.2 hz1
    clear hz1
    have HAW := Lib.hid (awake_c W4 (HE.out.go HB4.out))
    clear HW3
    revert HW4
    generalize ofA fs = gs
    generalize ofA hs = ks
    generalize ofZ fs = z1 at hne hne2 ⊢
    generalize ofZ hs = z2
    intro HW4
    go_wp2_with fail
    rw [← HW4.out]
    refine HAW.out.mono ?_
    rintro e w5 ⟨rfl, hb5⟩
    have HB5 : Hid (Below w.heap.size w w5) := btr HB4.out hb5
    clear hb5
    go_wp2
    go_ret
    exact ⟨rfl, HB5.out⟩
end Go.Proofs.YtcknlnphgndaoaaGreatDoor.Lb
