/- ReplyBack's walks: for every reply whose fields, with the text behind, are within bounds; where the library's variable MaxLen holds a number and its tables lie as the program's text lays them. -/
import Derived.Test.YtolfenachbbjdaaDoorRpQ
namespace Go.Proofs.YtolfenachbbjdaaDoor.Rp.Bk
open Go.RowKit Ch Hd Rp
set_option linter.unusedSimpArgs false
set_option linter.unusedVariables false

theorem stoodR : Tryd.prog.stoodInHeld 64 = false := by kernel_rfl
theorem eq_bl {w V : World} {n : Int} {v : Value} {body : ByteArray} (h : EQ w n v body V) : Below w.heap.size w V := h.1
set_option maxRecDepth 100000 in
set_option maxHeartbeats 8000000 in
theorem backN (n kk : Int) (ao aq : Option Addr) (cap cq : Nat) (fs fz : List FB) (body bz more E : ByteArray) (w : World) (HT : Hid (Nu.Tabs w)) (HM : Hid (Mx w)) (HR : Hid (RdF (.slice aq fz.length cq) fz w))
    (HCUT : Hid (∀ W, Calls Tryd.prog 8 #[.agg #[.int .i64 n, .slice ao fs.length cap, .string body]] W fun e w' => e = .returned (.agg #[.int .i64 n, .slice aq fz.length cq, .string bz]) ∧ Below W.heap.size W w'))
    (HOUR : Hid (∀ W, RdF (.slice aq fz.length cq) fz W → Calls Tryd.prog 10 #[.agg #[.int .i64 n, .slice aq fz.length cq, .string bz]] W fun e w' => ∃ au cu, e = .returned (.agg #[.int .i64 n, .slice au fz.length cu, .string bz]) ∧ RdF (.slice au fz.length cu) fz w' ∧ Below W.heap.size W w'))
    (HENC : Hid (∀ au cu W, RdF (.slice au fz.length cu) fz W → Nu.Tabs W → Calls Tryd.prog 9 #[.agg #[.int .i64 n, .slice au fz.length cu, .string bz]] W fun e w' => e = .returned (.tuple #[.string ⟨#[]⟩, .int .i64 3]) ∧ Below W.heap.size W w'))
    (HRT : Hid (∀ W, RdF (.slice aq fz.length cq) fz W → Calls Tryd.prog 11 #[.agg #[.int .i64 n, .slice aq fz.length cq, .string bz]] W fun e w' => e = .returned (.bool false) ∧ Below W.heap.size W w')) :
    Calls Tryd.prog 4 #[.agg #[.int .i64 n, .slice ao fs.length cap, .string body], .string more, .int .u16 kk] w fun e w' => e = .returned (.bool true) ∧ Below w.heap.size w w' := by
  go_enter Tryd.func4, Tryd.ntmps4
  go_wp2_with fail
  refine (HCUT.out _).mono ?_
  rintro e w1 ⟨rfl, hb1⟩
  obtain ⟨hk1, hl1, hB1⟩ := in3 hb1
  obtain ⟨c0, c1, c2⟩ := cells3 hk1
  have z0 := frz2 hk1 0
  have z1 := frz2 hk1 1
  have z2 := frz2 hk1 2
  obtain ⟨W2, hW2, HK2⟩ : ∃ W2, W2 = ((w1.setCell ⟨w.heap.size, 0, none⟩ (.int .i64 n)).setCell ⟨w.heap.size, 1, none⟩ (.slice aq fz.length cq)).setCell ⟨w.heap.size, 2, none⟩ (.string bz) ∧ Hid (EQ w n (.slice aq fz.length cq) bz W2) :=
    ⟨_, rfl, ((hB1.setCell (p := ⟨w.heap.size, 0, none⟩) (Nat.le_refl _) _).setCell (p := ⟨w.heap.size, 1, none⟩) (Nat.le_refl _) _).setCell (p := ⟨w.heap.size, 2, none⟩) (Nat.le_refl _) _, st3 hk1 _ _ _⟩
  have HWE := Lib.hid hW2
  obtain ⟨d0, d1, d2⟩ := cells3 HK2.out.2
  rw [hW2] at d0 d1 d2
  clear hb1 hk1 hB1 hW2
  go_wp2_with fail
  rw [← HWE.out] at d0 d1 d2 ⊢
  clear HWE c0 c1 c2 z0 z1 z2
  refine (HOUR.out _ (HR.out.go HK2.out.1)).mono ?_
  rintro e w3 ⟨au, cu, rfl, hr3, hb3⟩
  have HR3 := Lib.hid hr3
  have HK3 := Lib.hid (HK2.out.go hb3)
  clear hr3 hb3 d0 d1 d2
  go_wp2_with fail
  refine (HENC.out _ _ _ HR3.out (HT.out.go HK3.out.1)).mono ?_
  rintro e w4 ⟨rfl, hb4⟩
  have HK4 := Lib.hid (HK3.out.go hb4)
  clear hb4
  obtain ⟨d0, d1, d2⟩ := cells3 HK4.out.2
  go_wp2_with fail
  refine (HRT.out _ (HR.out.go HK4.out.1)).mono ?_
  rintro e w5 ⟨rfl, hb5⟩
  have HK5 := Lib.hid (HK4.out.go hb5)
  clear hb5 d0 d1 d2
  go_wp2_with fail
  refine (awake_c _ (HT.out.go HK5.out.1)).mono ?_
  rintro e w9 ⟨rfl, hb9⟩
  have HK9 := Lib.hid (HK5.out.go hb9)
  clear hb9
  go_wp2
  go_ret
  exact ⟨rfl, HK9.out.1⟩
set_option maxRecDepth 100000 in
set_option maxHeartbeats 8000000 in
theorem backY (n kk : Int) (ao aq : Option Addr) (cap cq : Nat) (fs fz : List FB) (body bz more E : ByteArray) (w : World) (HT : Hid (Nu.Tabs w)) (HM : Hid (Mx w)) (HR : Hid (RdF (.slice aq fz.length cq) fz w))
    (HCUT : Hid (∀ W, Calls Tryd.prog 8 #[.agg #[.int .i64 n, .slice ao fs.length cap, .string body]] W fun e w' => e = .returned (.agg #[.int .i64 n, .slice aq fz.length cq, .string bz]) ∧ Below W.heap.size W w'))
    (HOUR : Hid (∀ W, RdF (.slice aq fz.length cq) fz W → Calls Tryd.prog 10 #[.agg #[.int .i64 n, .slice aq fz.length cq, .string bz]] W fun e w' => ∃ au cu, e = .returned (.agg #[.int .i64 n, .slice au fz.length cu, .string bz]) ∧ RdF (.slice au fz.length cu) fz w' ∧ Below W.heap.size W w'))
    (HENC : Hid (∀ au cu W, RdF (.slice au fz.length cu) fz W → Nu.Tabs W → Calls Tryd.prog 9 #[.agg #[.int .i64 n, .slice au fz.length cu, .string bz]] W fun e w' => e = .returned (.tuple #[.string E, .int .i64 0]) ∧ Below W.heap.size W w'))
    (j : Nat) (hE : E.size ≤ 2000000) (hmr : more.size ≤ 2000000) (hE0 : E.toList.isEmpty = false) (hEz : E.size ≠ 0) (hk0 : 0 ≤ kk) (hk1 : kk ≤ 65535) (hmod : kk.tmod (E.size : Int) = (j : Int)) (hj : j < E.size) (hfl : fz.length ≤ 2000)
    (HP1 : Hid (∀ W, Mx W → Nu.Tabs W → Calls Tryd.prog 14 #[.string (E ++ more)] W fun e w' => ∃ ap cp, e = .returned (.tuple #[.agg #[.int .i64 n, .slice ap fz.length cp, .string bz], .int .i64 (E.size : Int), .int .i64 0]) ∧ RdF (.slice ap fz.length cp) fz w' ∧ Below W.heap.size W w'))
    (HP2 : Hid (∀ W, Mx W → Nu.Tabs W → Calls Tryd.prog 14 #[.string (E.extract 0 j)] W fun e w' => e = .returned (.tuple #[.agg #[.int .i64 0, .slice none 0 0, .string ⟨#[]⟩], .int .i64 0, .int .i64 11]) ∧ Below W.heap.size W w'))
    (HPL : Hid (∀ v W, RdF v fz W → Calls Tryd.prog 16 #[.agg #[.int .i64 n, v, .string bz]] W fun e w' => ∃ au cu, e = .returned (.agg #[.int .i64 n, .slice au fz.length cu, .string bz]) ∧ RdF (.slice au fz.length cu) fz w' ∧ Below W.heap.size W w'))
    (HSM : Hid (∀ a1 c1 W, RdF (.slice a1 fz.length c1) fz W → RdF (.slice aq fz.length cq) fz W → Calls Tryd.prog 15 #[.agg #[.int .i64 n, .slice a1 fz.length c1, .string bz], .agg #[.int .i64 n, .slice aq fz.length cq, .string bz]] W fun e w' => e = .returned (.bool true) ∧ Below W.heap.size W w')) :
    Calls Tryd.prog 4 #[.agg #[.int .i64 n, .slice ao fs.length cap, .string body], .string more, .int .u16 kk] w fun e w' => e = .returned (.bool true) ∧ Below w.heap.size w w' := by
  go_enter Tryd.func4, Tryd.ntmps4
  go_wp2_with fail
  refine (HCUT.out _).mono ?_
  rintro e w1 ⟨rfl, hb1⟩
  obtain ⟨hk1, hl1, hB1⟩ := in3 hb1
  obtain ⟨c0, c1, c2⟩ := cells3 hk1
  have z0 := frz2 hk1 0
  have z1 := frz2 hk1 1
  have z2 := frz2 hk1 2
  obtain ⟨W2, hW2, HK2⟩ : ∃ W2, W2 = ((w1.setCell ⟨w.heap.size, 0, none⟩ (.int .i64 n)).setCell ⟨w.heap.size, 1, none⟩ (.slice aq fz.length cq)).setCell ⟨w.heap.size, 2, none⟩ (.string bz) ∧ Hid (EQ w n (.slice aq fz.length cq) bz W2) :=
    ⟨_, rfl, ((hB1.setCell (p := ⟨w.heap.size, 0, none⟩) (Nat.le_refl _) _).setCell (p := ⟨w.heap.size, 1, none⟩) (Nat.le_refl _) _).setCell (p := ⟨w.heap.size, 2, none⟩) (Nat.le_refl _) _, st3 hk1 _ _ _⟩
  have HWE := Lib.hid hW2
  obtain ⟨d0, d1, d2⟩ := cells3 HK2.out.2
  rw [hW2] at d0 d1 d2
  clear hb1 hk1 hB1 hW2
  go_wp2_with fail
  rw [← HWE.out] at d0 d1 d2 ⊢
  clear HWE c0 c1 c2 z0 z1 z2
  refine (HOUR.out _ (HR.out.go HK2.out.1)).mono ?_
  rintro e w3 ⟨au, cu, rfl, hr3, hb3⟩
  have HR3 := Lib.hid hr3
  have HK3 := Lib.hid (HK2.out.go hb3)
  clear hr3 hb3 d0 d1 d2
  go_wp2_with fail
  refine (HENC.out _ _ _ HR3.out (HT.out.go HK3.out.1)).mono ?_
  rintro e w4 ⟨rfl, hb4⟩
  have HK4 := Lib.hid (HK3.out.go hb4)
  clear hb4
  obtain ⟨d0, d1, d2⟩ := cells3 HK4.out.2
  have hj0 : (0 : Int) ≤ (j : Int) := by omega
  have hj1 : (j : Int) ≤ (E.size : Int) := by omega
  have hEi : ¬ (E.size : Int) = 0 := by omega
  have hEb : ((E.size : Int) == 0) = false := beq_eq_false_iff_ne.2 hEi
  have hwr : IntKind.i64.wrap kk = kk := by unfold IntKind.wrap; simp [IntKind.signed, IntKind.bits]; omega
  have hwj : IntKind.i64.wrap (j : Int) = (j : Int) := by unfold IntKind.wrap; simp [IntKind.signed, IntKind.bits]; omega
  go_wp2_with fail
  refine (HP1.out _ (HM.out.go HK4.out.1) (HT.out.go HK4.out.1)).mono ?_
  rintro e w5 ⟨ap, cp, rfl, hr5, hb5⟩
  have HK5 := Lib.hid (HK4.out.go hb5)
  obtain ⟨W6, hW6, HK6, HN6, HR6⟩ : ∃ W6, W6 = w5.alloc (.cells #[.int .i64 n, .slice ap fz.length cp, .string bz] 31) ∧ Hid (EQ w n (.slice aq fz.length cq) bz W6) ∧ Hid (W6.heap[w5.heap.size]? = some (.cells #[.int .i64 n, .slice ap fz.length cp, .string bz] 31 (0, 0))) ∧ Hid (RdF (.slice ap fz.length cp) fz W6) :=
    ⟨_, rfl, HK5.out.go ((Below.refl _ _).alloc (Nat.le_refl _) _), heap_alloc_new w5 _, hr5.go ((Below.refl _ _).alloc (Nat.le_refl _) _)⟩
  have HWE := Lib.hid hW6
  have HKD : Hid (EQ w n (.slice aq fz.length cq) bz W6.drew) := HK6.out.drew
  have HRD : Hid (RdF (.slice ap fz.length cp) fz W6.drew) := HR6.out.go (by refine ⟨rfl, rfl, rfl, Nat.le_refl _, fun _ _ => rfl⟩)
  have HND : Hid (W6.drew.heap[w5.heap.size]? = some (.cells #[.int .i64 n, .slice ap fz.length cp, .string bz] 31 (0, 0))) := HN6.out
  have HC0 : Hid (W6.drew.cell? ⟨w5.heap.size, 0, none⟩ = some (.int .i64 n) ∧ W6.drew.cell? ⟨w5.heap.size, 1, none⟩ = some (.slice ap fz.length cp) ∧ W6.drew.cell? ⟨w5.heap.size, 2, none⟩ = some (.string bz) ∧ W6.drew.cell? ⟨w.heap.size, 0, none⟩ = some (.int .i64 n) ∧ W6.drew.cell? ⟨w.heap.size, 1, none⟩ = some (.slice aq fz.length cq) ∧ W6.drew.cell? ⟨w.heap.size, 2, none⟩ = some (.string bz)) := ⟨(cells3 HND.out).1, (cells3 HND.out).2.1, (cells3 HND.out).2.2, cells3 HKD.out.2⟩
  clear hb5 hW6 hr5 HK6 HN6 HR6 d0 d1 d2
  go_wp2_with fail
  rw [← HWE.out]
  clear HWE
  obtain ⟨c0, c1, c2, c3, c4, c5⟩ := HC0.out
  go_region_held3 (fun V => V.cell? ⟨w5.heap.size, 0, none⟩ = some (.int .i64 n) ∧ V.cell? ⟨w5.heap.size, 1, none⟩ = some (.slice ap fz.length cp) ∧ V.cell? ⟨w5.heap.size, 2, none⟩ = some (.string bz) ∧ V.cell? ⟨w.heap.size, 0, none⟩ = some (.int .i64 n) ∧ V.cell? ⟨w.heap.size, 1, none⟩ = some (.slice aq fz.length cq) ∧ V.cell? ⟨w.heap.size, 2, none⟩ = some (.string bz))
    (first | (with_reducible exact HC0.out) | (with_reducible exact HC7.out) | (with_reducible exact HC8.out))
    (first
      | (go_at_call 16; (with_reducible refine (HPL.out _ W6.drew HRD.out).mono ?_); rintro e w7 ⟨av, cv, rfl, ho7, hb7⟩; have HK7 := Lib.hid (HKD.out.go hb7); have HN7 : Hid (w7.heap[w5.heap.size]? = some (.cells #[.int .i64 n, .slice ap fz.length cp, .string bz] 31 (0, 0))) := (hb7.block _ (Array.getElem?_eq_some_iff.1 HND.out).1).trans HND.out; have HR7 := Lib.hid ho7; have HC7 : Hid (w7.cell? ⟨w5.heap.size, 0, none⟩ = some (.int .i64 n) ∧ w7.cell? ⟨w5.heap.size, 1, none⟩ = some (.slice ap fz.length cp) ∧ w7.cell? ⟨w5.heap.size, 2, none⟩ = some (.string bz) ∧ w7.cell? ⟨w.heap.size, 0, none⟩ = some (.int .i64 n) ∧ w7.cell? ⟨w.heap.size, 1, none⟩ = some (.slice aq fz.length cq) ∧ w7.cell? ⟨w.heap.size, 2, none⟩ = some (.string bz)) := ⟨(cells3 HN7.out).1, (cells3 HN7.out).2.1, (cells3 HN7.out).2.2, cells3 HK7.out.2⟩; obtain ⟨e0, e1, e2, e3, e4, e5⟩ := HC7.out; clear ho7 hb7)
      | (go_at_call 15; (with_reducible refine (HSM.out _ _ w7 HR7.out (HR.out.go (eq_bl HK7.out))).mono ?_); rintro e w8 ⟨rfl, hb8⟩; have HK8 := Lib.hid (HK7.out.go hb8); have HN8 : Hid (w8.heap[w5.heap.size]? = some (.cells #[.int .i64 n, .slice ap fz.length cp, .string bz] 31 (0, 0))) := (hb8.block _ (Array.getElem?_eq_some_iff.1 HN7.out).1).trans HN7.out; have HC8 : Hid (w8.cell? ⟨w5.heap.size, 0, none⟩ = some (.int .i64 n) ∧ w8.cell? ⟨w5.heap.size, 1, none⟩ = some (.slice ap fz.length cp) ∧ w8.cell? ⟨w5.heap.size, 2, none⟩ = some (.string bz) ∧ w8.cell? ⟨w.heap.size, 0, none⟩ = some (.int .i64 n) ∧ w8.cell? ⟨w.heap.size, 1, none⟩ = some (.slice aq fz.length cq) ∧ w8.cell? ⟨w.heap.size, 2, none⟩ = some (.string bz)) := ⟨(cells3 HN8.out).1, (cells3 HN8.out).2.1, (cells3 HN8.out).2.2, cells3 HK8.out.2⟩; clear hb8))
  all_goals
    clear c0 c1 c2 c3 c4 c5 e0 e1 e2 e3 e4 e5
    go_wp2_with fail
    refine (HP2.out _ (HM.out.go HK8.out.1) (HT.out.go HK8.out.1)).mono ?_
    rintro e w10 ⟨rfl, hb10⟩
    have HK10 := Lib.hid ((HK8.out.go hb10).go ((Below.refl _ _).alloc (Nat.le_refl _) (.cells #[.int .i64 0, .slice none 0 0, .string ⟨#[]⟩] 31)))
    clear hb10
    go_wp2_with fail
    refine (awake_c _ (HT.out.go HK10.out.1)).mono ?_
    rintro e w9 ⟨rfl, hb9⟩
    have HK9 := Lib.hid (HK10.out.go hb9)
    clear hb9
    go_wp2
    go_ret
    exact ⟨rfl, HK9.out.1⟩
theorem walk (n kk : Int) (wn : (Lit.int .i64 n).wf = true) (wk : (Lit.int .u16 kk).wf = true) (ao : Option Addr) (cap : Nat) (fs : List FB) (body more : ByteArray) (w0 : body.size ≤ maxLen) (w : World) (hR : RdF (.slice ao fs.length cap) fs w) (hc : fs.length ≤ cap) (hm : cap ≤ maxLen) (hbk : 3 * (fs.flatMap fldB).length + 3 * more.size ≤ 4194304) (hT : Nu.Tabs w) (hM : Mx w) :
    Calls Tryd.prog 4 #[.agg #[.int .i64 n, .slice ao fs.length cap, .string body], .string more, .int .u16 kk] w fun e w' => e = .returned (.bool true) ∧ Below w.heap.size w w' := by
  unfold maxLen at w0 hm
  obtain ⟨hn0, hn1⟩ := bounds_i64 wn
  have hkk : 0 ≤ kk ∧ kk ≤ 65535 := by
    have := wk
    simp [Lit.wf, IntKind.min, IntKind.max, IntKind.signed, IntKind.bits] at this
    omega
  obtain ⟨aq, cq, hq, hcut⟩ := cut_c n ao cap fs body w hR hc hm w0
  have hfle := flat_le fs 6
  have hfm : ∀ f ∈ fs.take 6, (fldB f).length ≤ ((fs.take 6).flatMap fldB).length := fun f hf => by
    obtain ⟨l1, l2, e⟩ := List.append_of_mem hf
    rw [e, List.flatMap_append, List.flatMap_cons, List.length_append, List.length_append]; omega
  have hsm : ∀ f ∈ fs.take 6, smallF f := fun f hf => by
    have h1 := hfm f hf
    rw [fld_len] at h1
    exact ⟨by omega, by omega⟩
  have hl6 : (fs.take 6).length ≤ 6 := by rw [List.length_take]; omega
  have hb200 : (mkS (body.data.toList.take 200)).size ≤ 200 := by rw [size_mkS, List.length_take]; omega
  have hen := encL_len n hn0 hn1 (fs.take 6) (mkS (body.data.toList.take 200)) hb200
  generalize hbz : mkS (body.data.toList.take 200) = bz at hcut hb200 hen
  clear hbz
  have hflz : ((fs.take 6).flatMap fldB).length ≤ 1398102 := by omega
  have hfsz : 3 * ((fs.take 6).flatMap fldB).length + 3 * more.size ≤ 4194304 := by omega
  clear hfle hbk hfm
  generalize fs.take 6 = fz at hq hcut hsm hl6 hen hflz hfsz
  have HO := fun W (h : RdF (.slice aq fz.length cq) fz W) => (Ours_c n _ fz bz W h (by omega)).mono (R' := fun e w' => ∃ au cu, e = .returned (.agg #[.int .i64 n, .slice au fz.length cu, .string bz]) ∧ RdF (.slice au fz.length cu) fz w' ∧ Below W.heap.size W w') fun e w' hh => by
    obtain ⟨au, cu, he, ho, hb⟩ := hh
    exact ⟨au, cu, he, ho.rd, hb⟩
  have HE := fun au cu W (h : RdF (.slice au fz.length cu) fz W) (ht : Nu.Tabs W) => Encode_c n _ fz bz W hn0 hn1 h hsm ht (by omega) (by omega) (by omega)
  have HRT := fun W (h : RdF (.slice aq fz.length cq) fz W) => RightR_c n _ fz bz W h (by omega) hsm
  cases hqq : rightB n fz bz with
  | false =>
    simp only [hqq] at HE HRT
    exact backN n kk ao aq cap cq fs fz body bz more ⟨#[]⟩ w (Lib.hid hT) (Lib.hid hM) (Lib.hid hq) (Lib.hid hcut) (Lib.hid HO) (Lib.hid HE) (Lib.hid HRT)
  | true =>
    simp only [hqq] at HE
    have hEs : (mkS (encL n fz bz)).size = (encL n fz bz).length := size_mkS _
    have hd1 : (mkS (encL n fz bz) ++ more).data.toList = encL n fz bz ++ more.data.toList := by simp [data_mkS]
    have hs1 : (mkS (encL n fz bz) ++ more).size ≤ 1500000 := by rw [ByteArray.size_append, hEs]; omega
    have hpo1 := paOk_back hqq (by omega) (by omega) (by omega) (mkS (encL n fz bz) ++ more) more.data.toList hd1 hs1
    have hpb := par_back hqq (by omega) (mkS (encL n fz bz) ++ more) more.data.toList hd1
    have HP1 := fun W (h1 : Mx W) (h2 : Nu.Tabs W) => (Parse_c (mkS (encL n fz bz) ++ more) W hpo1 h1 h2).mono (R' := fun e w' => ∃ ap cp, e = .returned (.tuple #[.agg #[.int .i64 n, .slice ap fz.length cp, .string bz], .int .i64 ((mkS (encL n fz bz)).size : Int), .int .i64 0]) ∧ RdF (.slice ap fz.length cp) fz w' ∧ Below W.heap.size W w') fun e w' hh => by
      rw [hpb] at hh
      obtain ⟨⟨ap, cp, h3, h4⟩, h5⟩ := hh
      exact ⟨ap, cp, by rw [h3, hEs], h4.rd, h5⟩
    obtain ⟨j, hj, hmod⟩ : ∃ j : Nat, j < (encL n fz bz).length ∧ kk.tmod (((mkS (encL n fz bz)).size : Nat) : Int) = (j : Int) := by
      have h0 := hen.2
      have h1 : kk.tmod ((encL n fz bz).length : Int) = kk % ((encL n fz bz).length : Int) := Int.tmod_eq_emod_of_nonneg hkk.1
      have h2 := Int.emod_nonneg kk (by omega : ((encL n fz bz).length : Int) ≠ 0)
      have h3 := Int.emod_lt_of_pos kk (by omega : (0 : Int) < ((encL n fz bz).length : Int))
      refine ⟨(kk % ((encL n fz bz).length : Int)).toNat, by omega, by rw [hEs, h1]; omega⟩
    have hd2 : ((mkS (encL n fz bz)).extract 0 j).data.toList = (encL n fz bz).take j := by rw [ext0, data_mkS, data_mkS]
    have hs2 : ((mkS (encL n fz bz)).extract 0 j).size ≤ 1500000 := by have := ext_take (mkS (encL n fz bz)) j; omega
    have hpo2 := paOk_more hqq (by omega) (by omega) (by omega) ((mkS (encL n fz bz)).extract 0 j) hd2 hs2
    have hpm := par_more hqq (by omega) ((mkS (encL n fz bz)).extract 0 j) hj hd2
    have HP2 := fun W (h1 : Mx W) (h2 : Nu.Tabs W) => (Parse_c ((mkS (encL n fz bz)).extract 0 j) W hpo2 h1 h2).mono (R' := fun e w' => e = .returned (.tuple #[.agg #[.int .i64 0, .slice none 0 0, .string ⟨#[]⟩], .int .i64 0, .int .i64 11]) ∧ Below W.heap.size W w') fun e w' hh => by
      rw [hpm] at hh
      exact hh
    have HPL := fun v W (h : RdF v fz W) => (Plain_c n v fz bz W h (by omega)).mono (R' := fun e w' => ∃ au cu, e = .returned (.agg #[.int .i64 n, .slice au fz.length cu, .string bz]) ∧ RdF (.slice au fz.length cu) fz w' ∧ Below W.heap.size W w') fun e w' hh => by
      obtain ⟨au, cu, he, ho, hb⟩ := hh
      exact ⟨au, cu, he, ho.rd, hb⟩
    have HSM := fun a1 c1 W (h1 : RdF (.slice a1 fz.length c1) fz W) (h2 : RdF (.slice aq fz.length cq) fz W) => Same_c n a1 aq c1 cq fz bz W h1 h2 (by omega) stoodR
    have hE0 : (mkS (encL n fz bz)).toList.isEmpty = false := by
      rw [Lib.toList_data, data_mkS]
      cases he : encL n fz bz with
      | nil => rw [he] at hen; exact absurd rfl hen.2
      | cons c r => rfl
    exact backY n kk ao aq cap cq fs fz body bz more _ w (Lib.hid hT) (Lib.hid hM) (Lib.hid hq) (Lib.hid hcut) (Lib.hid HO) (Lib.hid HE) j (by omega) (by omega) hE0 (by have := hen.2; omega) hkk.1 hkk.2 hmod (by omega) (by omega) (Lib.hid HP1) (Lib.hid HP2) (Lib.hid HPL) (Lib.hid HSM)
end Go.Proofs.YtolfenachbbjdaaDoor.Rp.Bk
