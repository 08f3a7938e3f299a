/- Contracts of the steps of package chunk's reader, way by way: for every text of at most a thousand bytes. -/
import Derived.Test.YteegbcjpganobaaDoorCkLine
namespace Go.Proofs.YteegbcjpganobaaDoor.Hd
open Go.RowKit Ch
set_option linter.unusedSimpArgs false
set_option linter.unusedVariables false

theorem St.gb2 {g : Nat} {s : ByteArray} {k' : Nat} {a b c sz' n' st' : Int} {p v : Value} {l : List UInt8} {w w' : World} (h1 : CkB g s k' a b c sz' n' p v st' w') (h2 : p = .pointer none ∨ p = .pointer (some ⟨g, 7, none⟩)) (h3 : OwB (g + 1) v l w) (h4 : l = [] → v = .slice none 0 0) (hb : w.grownBy w' (some g)) : St g s k' a b c sz' n' l st' w' := ⟨p, v, h1, h2, h3.gb hb (Nat.lt_succ_self _), h4⟩
abbrev fnV (n g : Nat) : Value := .func (.func n) #[.pointer (some ⟨g, 0, none⟩)] #[]
set_option maxRecDepth 100000 in
set_option maxHeartbeats 2000000 in
theorem be_a (g : Nat) (s : ByteArray) (k : Nat) (a b c sz n : Int) (p v : Value) (st : Int) (w : World) (h : CkB g s k a b c sz n p v st w) (hk : k ≤ s.size) (hs : s.size ≤ 10000) (HP : Hid (∀ W, Calls Tryd.prog 58 #[.string (s.extract k s.size), .string ⟨#[13, 10]⟩] W fun e w' => e = .returned (.bool true) ∧ W = w')) :
    Calls Tryd.prog 41 #[.pointer (some ⟨g, 0, none⟩)] w fun e w' => e = .returned (fnV 21 g) ∧ CkB g s (k + 2) a b c sz n p v st w' ∧ w.grownBy w' (some g) := by
  have H := Lib.hid h
  have c0 := heap_cell h 0
  have c1 := heap_cell h 1
  have hk0 : (0 : Int) ≤ (k : Int) := by omega
  have hk1 : (k : Int) ≤ (s.size : Int) := by omega
  clear h
  go_enter Tryd.func41, Tryd.ntmps41
  go_wp2_with fail
  go_quiet (fail)
  have HD : Hid (CkB g s k a b c sz n p v st (w.drewN nq)) := H.out
  have HGD : Hid (w.grownBy (w.drewN nq) (some g)) := ⟨rfl, rfl, rfl, Nat.le_refl _, fun _ _ _ => rfl⟩
  generalize w.drewN nq = wd at HD HGD ⊢
  clear c0 c1
  have c1 := heap_cell HD.out 1
  have f1 := frz2 HD.out 1
  have HS := Lib.hid (set10 HD.out (.int .i64 ((k : Int) + 2))).1
  go_wp2_with fail
  refine (HP.out _).mono ?_
  rintro e w1 ⟨rfl, hw⟩
  rw [← hw]; clear hw
  go_wp2
  go_ret
  exact ⟨rfl, HS.out, gb_trans HGD.out (gb_set _ _ _ _)⟩
set_option maxRecDepth 100000 in
set_option maxHeartbeats 2000000 in
theorem be_b (g : Nat) (s : ByteArray) (k : Nat) (a b c sz n : Int) (p v : Value) (st : Int) (w : World) (h : CkB g s k a b c sz n p v st w) (hk : k ≤ s.size) (hs : s.size ≤ 10000) (HP : Hid (∀ W, Calls Tryd.prog 58 #[.string (s.extract k s.size), .string ⟨#[13, 10]⟩] W fun e w' => e = .returned (.bool false) ∧ W = w')) (HP2 : Hid (∀ W, Calls Tryd.prog 58 #[.string ⟨#[13, 10]⟩, .string (s.extract k s.size)] W fun e w' => e = .returned (.bool true) ∧ W = w')) :
    Calls Tryd.prog 41 #[.pointer (some ⟨g, 0, none⟩)] w fun e w' => e = .returned .nilFunc ∧ CkB g s k a b c sz n p v 1 w' ∧ w.grownBy w' (some g) := by
  have H := Lib.hid h
  have c0 := heap_cell h 0
  have c1 := heap_cell h 1
  have hk0 : (0 : Int) ≤ (k : Int) := by omega
  have hk1 : (k : Int) ≤ (s.size : Int) := by omega
  clear h
  go_enter Tryd.func41, Tryd.ntmps41
  go_wp2_with fail
  go_quiet (fail)
  have HD : Hid (CkB g s k a b c sz n p v st (w.drewN nq)) := H.out
  have HGD : Hid (w.grownBy (w.drewN nq) (some g)) := ⟨rfl, rfl, rfl, Nat.le_refl _, fun _ _ _ => rfl⟩
  generalize w.drewN nq = wd at HD HGD ⊢
  clear c0 c1
  have HR := Lib.hid (refuse_c g s k a b c sz n p v st 1 wd HD.out)
  go_wp2_with fail
  refine (HP.out _).mono ?_
  rintro e w1 ⟨rfl, hw⟩
  rw [← hw]; clear hw
  go_wp2_with fail
  refine (HP2.out _).mono ?_
  rintro e w1 ⟨rfl, hw⟩
  rw [← hw]; clear hw
  go_wp2_with fail
  refine HR.out.mono ?_
  rintro e w1 ⟨rfl, h1, h2⟩
  have H1 := Lib.hid h1
  have H2 := Lib.hid (gb_trans HGD.out h2)
  clear h1 h2
  go_wp2
  go_ret
  exact ⟨rfl, H1.out, H2.out⟩
set_option maxRecDepth 100000 in
set_option maxHeartbeats 2000000 in
theorem be_c (g : Nat) (s : ByteArray) (k : Nat) (a b c sz n : Int) (p v : Value) (st : Int) (w : World) (h : CkB g s k a b c sz n p v st w) (hk : k ≤ s.size) (hs : s.size ≤ 10000) (HP : Hid (∀ W, Calls Tryd.prog 58 #[.string (s.extract k s.size), .string ⟨#[13, 10]⟩] W fun e w' => e = .returned (.bool false) ∧ W = w')) (HP2 : Hid (∀ W, Calls Tryd.prog 58 #[.string ⟨#[13, 10]⟩, .string (s.extract k s.size)] W fun e w' => e = .returned (.bool false) ∧ W = w')) :
    Calls Tryd.prog 41 #[.pointer (some ⟨g, 0, none⟩)] w fun e w' => e = .returned .nilFunc ∧ CkB g s k a b c sz n p v 400 w' ∧ w.grownBy w' (some g) := by
  have H := Lib.hid h
  have c0 := heap_cell h 0
  have c1 := heap_cell h 1
  have hk0 : (0 : Int) ≤ (k : Int) := by omega
  have hk1 : (k : Int) ≤ (s.size : Int) := by omega
  clear h
  go_enter Tryd.func41, Tryd.ntmps41
  go_wp2_with fail
  go_quiet (fail)
  have HD : Hid (CkB g s k a b c sz n p v st (w.drewN nq)) := H.out
  have HGD : Hid (w.grownBy (w.drewN nq) (some g)) := ⟨rfl, rfl, rfl, Nat.le_refl _, fun _ _ _ => rfl⟩
  generalize w.drewN nq = wd at HD HGD ⊢
  clear c0 c1
  have HR := Lib.hid (refuse_c g s k a b c sz n p v st 400 wd HD.out)
  go_wp2_with fail
  refine (HP.out _).mono ?_
  rintro e w1 ⟨rfl, hw⟩
  rw [← hw]; clear hw
  go_wp2_with fail
  refine (HP2.out _).mono ?_
  rintro e w1 ⟨rfl, hw⟩
  rw [← hw]; clear hw
  go_wp2_with fail
  refine HR.out.mono ?_
  rintro e w1 ⟨rfl, h1, h2⟩
  have H1 := Lib.hid h1
  have H2 := Lib.hid (gb_trans HGD.out h2)
  clear h1 h2
  go_wp2
  go_ret
  exact ⟨rfl, H1.out, H2.out⟩
set_option maxRecDepth 100000 in
set_option maxHeartbeats 2000000 in
theorem by_m (g : Nat) (s : ByteArray) (k : Nat) (a b c sz n : Int) (p v : Value) (st : Int) (w : World) (h : CkB g s k a b c sz n p v st w) (hk : k ≤ s.size) (hs : s.size ≤ 10000) (hz0 : 1 ≤ sz) (hz1 : sz ≤ 2147483647) (hm : (s.size : Int) < (k : Int) + sz) :
    Calls Tryd.prog 29 #[.pointer (some ⟨g, 0, none⟩)] w fun e w' => e = .returned .nilFunc ∧ CkB g s k a b c sz n p v 1 w' ∧ w.grownBy w' (some g) := by
  have H := Lib.hid h
  have c0 := heap_cell h 0
  have c1 := heap_cell h 1
  have hk0 : (0 : Int) ≤ (k : Int) := by omega
  have hk1 : (k : Int) ≤ (s.size : Int) := by omega
  have c5 := heap_cell h 5
  clear h
  go_enter Tryd.func29, Tryd.ntmps29
  go_wp2_with fail
  go_quiet (fail)
  have HD : Hid (CkB g s k a b c sz n p v st (w.drewN nq)) := H.out
  have HGD : Hid (w.grownBy (w.drewN nq) (some g)) := ⟨rfl, rfl, rfl, Nat.le_refl _, fun _ _ _ => rfl⟩
  generalize w.drewN nq = wd at HD HGD ⊢
  clear c0 c1 c5
  have c0 := heap_cell HD.out 0
  have HR := Lib.hid (refuse_c g s k a b c sz n p v st 1 wd HD.out)
  go_wp2_with fail
  refine HR.out.mono ?_
  rintro e w1 ⟨rfl, h1, h2⟩
  have H1 := Lib.hid h1
  have H2 := Lib.hid (gb_trans HGD.out h2)
  clear h1 h2
  go_wp2
  go_ret
  exact ⟨rfl, H1.out, H2.out⟩
set_option maxRecDepth 100000 in
set_option maxHeartbeats 2000000 in
theorem by_o (g : Nat) (s : ByteArray) (k z : Nat) (a b c n : Int) (l : List UInt8) (st : Int) (w : World) (h : St g s k a b c (z : Int) n l st w) (hk : k + z ≤ s.size) (hs : s.size ≤ 10000) (hz0 : 1 ≤ z) (hl : l.length ≤ 10000) :
    Calls Tryd.prog 29 #[.pointer (some ⟨g, 0, none⟩)] w fun e w' => e = .returned (fnV 41 g) ∧ St g s (k + z) a b c (z : Int) n (l ++ (s.data.toList.drop k).take z) st w' ∧ Below g w w' := by
  have hxs : (s.extract k (k + z)).size = z := by rw [ByteArray.size_extract]; omega
  have hxd : (s.extract k (k + z)).data.toList = (s.data.toList.drop k).take z := by rw [Lib.extract_data, Nat.add_sub_cancel_left]
  have HW : Hid (∀ W, St g s k a b c (z : Int) n l st W → _) := fun W h => wst_c g s k a b c (z : Int) n l st (s.extract k (k + z)) W h (by omega) (by omega)
  rw [hxd] at HW
  have HST := Lib.hid h
  obtain ⟨p, v, h1, _, _, _⟩ := h
  have c0 := heap_cell h1 0
  have c1 := heap_cell h1 1
  have c5 := heap_cell h1 5
  have hk0 : (0 : Int) ≤ (k : Int) := by omega
  have hk1 : (k : Int) + (z : Int) ≤ (s.size : Int) := by omega
  have hk2 : (k : Int) ≤ (s.size : Int) := by omega
  have hzz : (0 : Int) ≤ (z : Int) := by omega
  have hk3 : (k : Int) ≤ (k : Int) + (z : Int) := by omega
  have hk4 : (0 : Int) ≤ (k : Int) + (z : Int) := by omega
  have hk5 : ((k : Int) + (z : Int)).toNat = k + z := by omega
  clear h1 hxd
  go_enter Tryd.func29, Tryd.ntmps29
  go_wp2_with fail
  go_quiet (fail)
  have HD : Hid (St g s k a b c (z : Int) n l st (w.drewN nq)) := HST.out
  have HBD : Hid (Below g w (w.drewN nq)) := ⟨rfl, rfl, rfl, Nat.le_refl _, fun _ _ => rfl⟩
  generalize w.drewN nq = wd at HD HBD ⊢
  clear c0 c1 c5
  obtain ⟨pd, vd, hd, _, _, _⟩ := HD.out
  have c0 := heap_cell hd 0
  have c1 := heap_cell hd 1
  clear hd
  go_wp2_with fail
  go_region_held3 (fun V => V.cell? ⟨g, 0, none⟩ = some (.string s) ∧ V.cell? ⟨g, 1, none⟩ = some (.int .i64 (k : Int)))
    (first | exact ⟨e0, e1⟩ | exact ⟨c0, c1⟩)
    (first | (go_at_call 11; refine (HW.out wd.drew HD.out).mono ?_; rintro e w3 ⟨rfl, h3, hb3⟩; have HS3 := Lib.hid h3; have HB3 : Hid (Below g w w3) := HBD.out.trans ⟨hb3.os, hb3.tape, hb3.output, hb3.size, hb3.block⟩; obtain ⟨pe, ve, he, hpe, hoe, hne⟩ := h3; have HE3 := Lib.hid he; have HO3 := Lib.hid hoe; have e0 := heap_cell he 0; have e1 := heap_cell he 1; clear he hb3 hoe))
  clear c0 c1 e0 e1
  have d1 := heap_cell HE3.out 1
  have f1 := frz2 HE3.out 1
  have hsum : (k : Int) + (z : Int) = ((k + z : Nat) : Int) := by omega
  have HF : Hid (St g s (k + z) a b c (z : Int) n (l ++ (s.data.toList.drop k).take z) st (w3.setCell ⟨g, 1, none⟩ (.int .i64 ((k : Int) + (z : Int))))) := by
    rw [hsum]
    exact ⟨pe, ve, (set10 HE3.out _).1, hpe, HO3.out.gb (gb_set _ _ _ _) (Nat.lt_succ_self _), hne⟩
  clear hsum hpe hne
  go_wp2
  go_ret
  exact ⟨rfl, HF.out, HB3.out.setCell (p := ⟨g, 1, none⟩) (Nat.le_refl _) _⟩
set_option maxRecDepth 100000 in
set_option maxHeartbeats 2000000 in
theorem fl_e (g : Nat) (s : ByteArray) (k : Nat) (a b c sz n : Int) (p v : Value) (st : Int) (x : Int) (w : World) (h : CkB g s k a b c sz n p v st w) (HLN : Hid (Calls Tryd.prog 24 #[.pointer (some ⟨g, 0, none⟩), .int .i64 431] w fun e w' => e = .returned (.tuple #[.string ⟨#[]⟩, .bool false]) ∧ CkB g s k a b c sz n p v x w' ∧ w.grownBy w' (some g))) :
    Calls Tryd.prog 28 #[.pointer (some ⟨g, 0, none⟩)] w fun e w' => e = .returned .nilFunc ∧ CkB g s k a b c sz n p v x w' ∧ w.grownBy w' (some g) := by
  clear h
  go_enter Tryd.func28, Tryd.ntmps28
  go_wp2_with fail
  refine HLN.out.mono ?_
  rintro e w1 ⟨rfl, h1, hg1⟩
  have H1 := Lib.hid h1
  have HG1 := Lib.hid hg1
  clear hg1
  clear h1
  go_wp2
  go_ret
  exact ⟨rfl, H1.out, HG1.out⟩
set_option maxRecDepth 100000 in
set_option maxHeartbeats 2000000 in
theorem fl_z (g : Nat) (s : ByteArray) (k : Nat) (a b c sz n : Int) (p v : Value) (st : Int) (k1 : Nat) (t : ByteArray) (w : World) (h : CkB g s k a b c sz n p v st w) (HLN : Hid (Calls Tryd.prog 24 #[.pointer (some ⟨g, 0, none⟩), .int .i64 431] w fun e w' => e = .returned (.tuple #[.string t, .bool true]) ∧ CkB g s k1 a b c sz n p v st w' ∧ w.grownBy w' (some g))) (ht : t.toList.isEmpty = true) :
    Calls Tryd.prog 28 #[.pointer (some ⟨g, 0, none⟩)] w fun e w' => e = .returned .nilFunc ∧ CkB g s k1 a b c sz n p v st w' ∧ w.grownBy w' (some g) := by
  clear h
  go_enter Tryd.func28, Tryd.ntmps28
  go_wp2_with fail
  refine HLN.out.mono ?_
  rintro e w1 ⟨rfl, h1, hg1⟩
  have H1 := Lib.hid h1
  have HG1 := Lib.hid hg1
  clear hg1
  clear h1
  go_wp2
  go_ret
  exact ⟨rfl, H1.out, HG1.out⟩
set_option maxRecDepth 100000 in
set_option maxHeartbeats 2000000 in
theorem fl_l (g : Nat) (s : ByteArray) (k : Nat) (a b c sz n : Int) (p v : Value) (st : Int) (k1 : Nat) (t : ByteArray) (w : World) (h : CkB g s k a b c sz n p v st w) (HLN : Hid (Calls Tryd.prog 24 #[.pointer (some ⟨g, 0, none⟩), .int .i64 431] w fun e w' => e = .returned (.tuple #[.string t, .bool true]) ∧ CkB g s k1 a b c sz n p v st w' ∧ w.grownBy w' (some g))) (ht : t.toList.isEmpty = false) (hn : (n == b) = true) :
    Calls Tryd.prog 28 #[.pointer (some ⟨g, 0, none⟩)] w fun e w' => e = .returned .nilFunc ∧ CkB g s k1 a b c sz n p v 431 w' ∧ w.grownBy w' (some g) := by
  clear h
  go_enter Tryd.func28, Tryd.ntmps28
  go_wp2_with fail
  refine HLN.out.mono ?_
  rintro e w1 ⟨rfl, h1, hg1⟩
  have H1 := Lib.hid h1
  have HG1 := Lib.hid hg1
  clear hg1
  have d6 := heap_cell h1 6
  have d3 := heap_cell h1 3
  clear h1
  go_wp2_with fail
  go_quiet (fail)
  have HD : Hid (CkB g s k1 a b c sz n p v st (w1.drewN nq)) := H1.out
  have HGD : Hid (w1.grownBy (w1.drewN nq) (some g)) := ⟨rfl, rfl, rfl, Nat.le_refl _, fun _ _ _ => rfl⟩
  generalize w1.drewN nq = wd at HD HGD ⊢
  have HR := Lib.hid (refuse_c g s k1 a b c sz n p v st 431 wd HD.out)
  go_wp2_with fail
  refine HR.out.mono ?_
  rintro e w3 ⟨rfl, h3, hg3⟩
  have H3 := Lib.hid h3
  have HG3 := Lib.hid (gb_trans (gb_trans HG1.out HGD.out) hg3)
  clear h3 hg3
  go_wp2
  go_ret
  exact ⟨rfl, H3.out, HG3.out⟩
set_option maxRecDepth 100000 in
set_option maxHeartbeats 2000000 in
theorem fl_n (g : Nat) (s : ByteArray) (k : Nat) (a b c sz n : Int) (p v : Value) (st : Int) (k1 : Nat) (t fa fb : ByteArray) (w : World) (h : CkB g s k a b c sz n p v st w) (HLN : Hid (Calls Tryd.prog 24 #[.pointer (some ⟨g, 0, none⟩), .int .i64 431] w fun e w' => e = .returned (.tuple #[.string t, .bool true]) ∧ CkB g s k1 a b c sz n p v st w' ∧ w.grownBy w' (some g))) (ht : t.toList.isEmpty = false) (hn : (n == b) = false) (HOF : Hid (∀ W, Calls Tryd.prog 40 #[.string t] W fun e w' => e = .returned (.tuple #[.agg #[.string fa, .string fb], .bool false]) ∧ Below W.heap.size W w')) :
    Calls Tryd.prog 28 #[.pointer (some ⟨g, 0, none⟩)] w fun e w' => e = .returned .nilFunc ∧ CkB g s k1 a b c sz n p v 400 w' ∧ w.grownBy w' (some g) := by
  clear h
  go_enter Tryd.func28, Tryd.ntmps28
  go_wp2_with fail
  refine HLN.out.mono ?_
  rintro e w1 ⟨rfl, h1, hg1⟩
  have H1 := Lib.hid h1
  have HG1 := Lib.hid hg1
  clear hg1
  have d6 := heap_cell h1 6
  have d3 := heap_cell h1 3
  clear h1
  go_wp2_with fail
  go_quiet (fail)
  have HD : Hid (CkB g s k1 a b c sz n p v st (w1.drewN nq)) := H1.out
  have HGD : Hid (w1.grownBy (w1.drewN nq) (some g)) := ⟨rfl, rfl, rfl, Nat.le_refl _, fun _ _ _ => rfl⟩
  generalize w1.drewN nq = wd at HD HGD ⊢
  clear d6 d3
  go_wp2_with fail
  refine (HOF.out _).mono ?_
  rintro e w2 ⟨rfl, hb2⟩
  have hba : Below wd.heap.size wd (w2.alloc (.cells #[.string fa, .string fb] 77)) := hb2.alloc hb2.size _
  have H2 : Hid (CkB g s k1 a b c sz n p v st w2) := (hb2.block g HD.out.lt).trans HD.out
  have HG2 : Hid (w.grownBy w2 (some g)) := gb_trans (gb_trans HG1.out HGD.out) (gb_below hb2)
  have HR := Lib.hid (fun W h => refuse_c g s k1 a b c sz n p v st 400 W h)
  have H2a : Hid (CkB g s k1 a b c sz n p v st (w2.alloc (.cells #[.string fa, .string fb] 77))) := (hba.block g HD.out.lt).trans HD.out
  have HG2a : Hid (w.grownBy (w2.alloc (.cells #[.string fa, .string fb] 77)) (some g)) := gb_trans (gb_trans HG1.out HGD.out) (gb_below hba)
  clear hb2 hba
  go_wp2_with fail
  first | refine (HR.out _ H2a.out).mono ?_ | refine (HR.out _ H2.out).mono ?_
  rintro e w3 ⟨rfl, h3, hg3⟩
  have H3 := Lib.hid h3
  have HG3 : Hid (w.grownBy w3 (some g)) := by first | exact gb_trans HG2a.out hg3 | exact gb_trans HG2.out hg3
  clear h3 hg3
  go_wp2
  go_ret
  exact ⟨rfl, H3.out, HG3.out⟩
set_option maxRecDepth 100000 in
set_option maxHeartbeats 2000000 in
theorem fl_o (g : Nat) (s : ByteArray) (k : Nat) (a b c sz n : Int) (p v : Value) (st : Int) (k1 : Nat) (t fa fb : ByteArray) (w : World) (h : CkB g s k a b c sz n p v st w) (HLN : Hid (Calls Tryd.prog 24 #[.pointer (some ⟨g, 0, none⟩), .int .i64 431] w fun e w' => e = .returned (.tuple #[.string t, .bool true]) ∧ CkB g s k1 a b c sz n p v st w' ∧ w.grownBy w' (some g))) (ht : t.toList.isEmpty = false) (hn : (n == b) = false) (hn0 : 0 ≤ n) (hn1 : n ≤ 10000) (HOF : Hid (∀ W, Calls Tryd.prog 40 #[.string t] W fun e w' => e = .returned (.tuple #[.agg #[.string fa, .string fb], .bool true]) ∧ Below W.heap.size W w')) :
    Calls Tryd.prog 28 #[.pointer (some ⟨g, 0, none⟩)] w fun e w' => e = .returned (fnV 28 g) ∧ CkB g s k1 a b c sz (n + 1) p v st w' ∧ w.grownBy w' (some g) := by
  clear h
  go_enter Tryd.func28, Tryd.ntmps28
  go_wp2_with fail
  refine HLN.out.mono ?_
  rintro e w1 ⟨rfl, h1, hg1⟩
  have H1 := Lib.hid h1
  have HG1 := Lib.hid hg1
  clear hg1
  have d6 := heap_cell h1 6
  have d3 := heap_cell h1 3
  clear h1
  go_wp2_with fail
  go_quiet (fail)
  have HD : Hid (CkB g s k1 a b c sz n p v st (w1.drewN nq)) := H1.out
  have HGD : Hid (w1.grownBy (w1.drewN nq) (some g)) := ⟨rfl, rfl, rfl, Nat.le_refl _, fun _ _ _ => rfl⟩
  generalize w1.drewN nq = wd at HD HGD ⊢
  clear d6 d3
  go_wp2_with fail
  refine (HOF.out _).mono ?_
  rintro e w2 ⟨rfl, hb2⟩
  have hba : Below wd.heap.size wd (w2.alloc (.cells #[.string fa, .string fb] 77)) := hb2.alloc hb2.size _
  have H2 : Hid (CkB g s k1 a b c sz n p v st w2) := (hb2.block g HD.out.lt).trans HD.out
  have HG2 : Hid (w.grownBy w2 (some g)) := gb_trans (gb_trans HG1.out HGD.out) (gb_below hb2)
  clear hb2 hba
  have d6 := heap_cell H2.out 6
  have f6 := frz2 H2.out 6
  have hq1 : g < w2.heap.size := H2.out.lt
  have hq2 : g ≠ w2.heap.size := by omega
  have HS := Lib.hid (set10 H2.out (.int .i64 (n + 1))).2.2.1
  have HSA : Hid (CkB g s k1 a b c sz (n + 1) p v st ((w2.setCell ⟨g, 6, none⟩ (.int .i64 (n + 1))).alloc (.cells #[.string fa, .string fb] 77))) := heap_old _ HS.out
  have HGA : Hid (w.grownBy ((w2.setCell ⟨g, 6, none⟩ (.int .i64 (n + 1))).alloc (.cells #[.string fa, .string fb] 77)) (some g)) := gb_alloc (gb_trans HG2.out (gb_set _ _ _ _)) _
  go_wp2
  go_ret
  exact ⟨rfl, HSA.out, HGA.out⟩
set_option maxRecDepth 100000 in
set_option maxHeartbeats 2000000 in
theorem sl_e (g : Nat) (s : ByteArray) (k : Nat) (a b c sz n : Int) (p v : Value) (st : Int) (x : Int) (w : World) (h : CkB g s k a b c sz n p v st w) (HLN : Hid (Calls Tryd.prog 24 #[.pointer (some ⟨g, 0, none⟩), .int .i64 400] w fun e w' => e = .returned (.tuple #[.string ⟨#[]⟩, .bool false]) ∧ CkB g s k a b c sz n p v x w' ∧ w.grownBy w' (some g))) :
    Calls Tryd.prog 21 #[.pointer (some ⟨g, 0, none⟩)] w fun e w' => e = .returned .nilFunc ∧ CkB g s k a b c sz n p v x w' ∧ w.grownBy w' (some g) := by
  clear h
  go_enter Tryd.func21, Tryd.ntmps21
  go_wp2_with fail
  refine HLN.out.mono ?_
  rintro e w1 ⟨rfl, h1, hg1⟩
  have H1 := Lib.hid h1
  have HG1 := Lib.hid hg1
  clear hg1
  clear h1
  go_wp2
  go_ret
  exact ⟨rfl, H1.out, HG1.out⟩
end Go.Proofs.YteegbcjpganobaaDoor.Hd
