/- The law's step: one call, of both; no other condition. -/
import Derived.Test.YtjjnjankjbiigaaPnM
namespace Go.Proofs.Ytjjnjankjbiigaa.Pn
open Go.RowKit Go.Lib Go.Maps
set_option linter.unusedSimpArgs false
set_option linter.unusedVariables false

def StQ (c d : Nat) (m : Int) (l' : List Pin) (w : World) (e : Ending) (V : World) : Prop := e = .returned (.bool true) ∧ ∃ mb' gd', Kb c mb' d gd' m l' l' w V
theorem Kb.ltp {c d : Nat} {mb gd : Option Nat} {m : Int} {lp lr : List Pin} {w W : World} (h : Kb c mb d gd m lp lr w W) : c < W.heap.size ∧ d < W.heap.size ∧ mb ≠ some W.heap.size := ⟨h.pn.lt, h.rp.lt, fun e => by have := (h.pn.row _ e).2; omega⟩
set_option maxRecDepth 100000 in
set_option maxHeartbeats 4000000 in
theorem step_add {c d : Nat} {mb gd : Option Nat} {m : Int} {l : List Pin} {w W : World} (h : Kb c mb d gd m l l w W) (k a u : Int) (hk : k = 0 ∨ k = 1 ∨ k = 2) (hl : l.length ≤ 1000) :
    Calls Try.prog 8 #[.pointer (some ⟨c, 0, none⟩), .pointer (some ⟨d, 0, none⟩), .agg #[.int .i64 k, .int .i64 a, .int .i64 u]] W (StQ c d m (addL m l a u) w) := by
  obtain ⟨hcl, hdl, hmn⟩ := h.ltp
  obtain ⟨WX, hWX, hkX, hbX⟩ := new3 W (.int .i64 k) (.int .i64 a) (.int .i64 u) 28
  have KX := Lib.hid (h.go hbX)
  obtain ⟨x0, x1, x2⟩ := cells3 hkX
  have HKX := Lib.hid hkX
  have HWX := Lib.hid hWX
  have hcx : W.heap.size ≠ c := by omega
  clear hWX hbX
  have PP : Hid (Calls Try.prog 16 #[.pointer (some ⟨c, 0, none⟩), .int .i64 a, .int .i64 u] WX fun e V => e = .returned (.tuple #[.int .i64 (addV m l a), .int .i64 (addE m l a)]) ∧ ∃ mb', Kb c mb' d gd m (addL m l a u) l w V ∧ V.heap[W.heap.size]? = some (.cells #[.int .i64 k, .int .i64 a, .int .i64 u] 28 (0, 0))) := by
    refine (Add_u KX.out.pn KX.out.bel.size a u (by omega)).mono fun e V hq => ⟨hq.1, ?_⟩
    obtain ⟨_, mb', g1, g2, g3⟩ := hq
    exact ⟨mb', KX.out.stepP g1 g2 g3, KX.out.keepP g2 HKX.out hcx hmn⟩
  have PR : Hid (∀ mb' V, Kb c mb' d gd m (addL m l a u) l w V → Calls Try.prog 20 #[.pointer (some ⟨d, 0, none⟩), .int .i64 a, .int .i64 u] V fun e V' => e = .returned (.tuple #[.int .i64 (addV m l a), .int .i64 (addE m l a)]) ∧ ∃ mb' gd', Kb c mb' d gd' m (addL m l a u) (addL m l a u) w V') := fun mb' V hV => by
    refine (Add_ur hV.rp hV.bel.size a u (by omega)).mono fun e V' hq => ⟨hq.1, ?_⟩
    obtain ⟨_, gd', g1, g2, g3⟩ := hq
    exact ⟨mb', gd', hV.stepR g1 g2 g3⟩
  clear h hkX
  generalize addV m l a = av at *
  generalize addE m l a = ae at *
  generalize addL m l a u = l' at *
  rcases hk with rfl | rfl | rfl
  · go_enter Try.func8, Try.ntmps8
    go_upto_region 1 with (fail)
    rw [← HWX.out]
    go_wp2_with fail
    refine PP.out.mono ?_
    rintro e w1 ⟨rfl, mb1, hk1, hx1⟩
    obtain ⟨y0, y1, y2⟩ := cells3 hx1
    have HP := Lib.hid (PR.out _ _ hk1)
    clear hk1 hx1 x0 x1 x2 PP PR
    go_wp2_with fail
    refine HP.out.mono ?_
    rintro e w2 ⟨rfl, mb2, gd2, hk2⟩
    have K2 := Lib.hid hk2
    clear hk2 HP y0 y1 y2
    go_wp2
    go_ret
    exact ⟨rfl, _, _, K2.out⟩
  · go_enter Try.func8, Try.ntmps8
    go_upto_region 1 with (fail)
    rw [← HWX.out]
    go_wp2_with fail
    refine PP.out.mono ?_
    rintro e w1 ⟨rfl, mb1, hk1, hx1⟩
    obtain ⟨y0, y1, y2⟩ := cells3 hx1
    have HP := Lib.hid (PR.out _ _ hk1)
    clear hk1 hx1 x0 x1 x2 PP PR
    go_wp2_with fail
    refine HP.out.mono ?_
    rintro e w2 ⟨rfl, mb2, gd2, hk2⟩
    have K2 := Lib.hid hk2
    clear hk2 HP y0 y1 y2
    go_wp2
    go_ret
    exact ⟨rfl, _, _, K2.out⟩
  · go_enter Try.func8, Try.ntmps8
    go_upto_region 1 with (fail)
    rw [← HWX.out]
    go_wp2_with fail
    refine PP.out.mono ?_
    rintro e w1 ⟨rfl, mb1, hk1, hx1⟩
    obtain ⟨y0, y1, y2⟩ := cells3 hx1
    have HP := Lib.hid (PR.out _ _ hk1)
    clear hk1 hx1 x0 x1 x2 PP PR
    go_wp2_with fail
    refine HP.out.mono ?_
    rintro e w2 ⟨rfl, mb2, gd2, hk2⟩
    have K2 := Lib.hid hk2
    clear hk2 HP y0 y1 y2
    go_wp2
    go_ret
    exact ⟨rfl, _, _, K2.out⟩
set_option maxRecDepth 100000 in
set_option maxHeartbeats 4000000 in
theorem step_keep {c d : Nat} {mb gd : Option Nat} {m : Int} {l : List Pin} {w W : World} (h : Kb c mb d gd m l l w W) (a u : Int) (ha : I64v a) (hl : l.length ≤ 1000) :
    Calls Try.prog 8 #[.pointer (some ⟨c, 0, none⟩), .pointer (some ⟨d, 0, none⟩), .agg #[.int .i64 3, .int .i64 a, .int .i64 u]] W (StQ c d m (keepL l a u) w) := by
  obtain ⟨k, hk⟩ : ∃ k : Int, k = 3 := ⟨_, rfl⟩
  rw [← hk]
  obtain ⟨hcl, hdl, hmn⟩ := h.ltp
  obtain ⟨WX, hWX, hkX, hbX⟩ := new3 W (.int .i64 k) (.int .i64 a) (.int .i64 u) 28
  have KX := Lib.hid (h.go hbX)
  obtain ⟨x0, x1, x2⟩ := cells3 hkX
  have HKX := Lib.hid hkX
  have HGD : Hid (gd ≠ some W.heap.size) := fun e => by have := (h.rp.row _ e).2; omega
  have HWX := Lib.hid hWX
  have hcx : W.heap.size ≠ c := by omega
  clear hWX hbX
  have PP : Hid (Calls Try.prog 17 #[.pointer (some ⟨c, 0, none⟩), .int .i64 a, .int .i64 u] WX.drew fun e V => e = .returned (.bool (hb l a)) ∧ Kb c mb d gd m (keepL l a u) l w V ∧ V.heap[W.heap.size]? = some (.cells #[.int .i64 k, .int .i64 a, .int .i64 u] 28 (0, 0))) := by
    have KD := KX.out.go (bdr WX)
    have hcl := cnt_le l
    refine (Keep_c KD.pn u ha (by unfold maxLen; omega)).mono fun e V hq => ⟨hq.1, ?_, ?_⟩
    · exact KD.stepP hq.2.1 hq.2.2 (.inl rfl)
    · exact KD.keepP hq.2.2 HKX.out hcx hmn
  have PR : Hid (∀ V, Kb c mb d gd m (keepL l a u) l w V → Calls Try.prog 21 #[.pointer (some ⟨d, 0, none⟩), .int .i64 a, .int .i64 u] V fun e V' => e = .returned (.bool (hb l a)) ∧ Kb c mb d gd m (keepL l a u) (keepL l a u) w V' ∧ (∀ o, V.heap[W.heap.size]? = some o → V'.heap[W.heap.size]? = some o)) := fun V hV => by
    refine (Keep_r hV.rp a u (by omega)).mono fun e V' hq => ⟨hq.1, hV.stepR hq.2.1 hq.2.2 (.inl rfl), fun o ho => ?_⟩
    rw [hq.2.2.block _ (Array.getElem?_eq_some_iff.1 ho).1 (by omega) HGD.out.symm]; exact ho
  clear h hkX
  have HXD : WX.drew.cell? ⟨W.heap.size, 1, none⟩ = some (.int .i64 a) ∧ WX.drew.cell? ⟨W.heap.size, 2, none⟩ = some (.int .i64 u) := ⟨x1, x2⟩
  subst hk
  generalize keepL l a u = l' at *
  generalize hb l a = v at *
  go_enter Try.func8, Try.ntmps8
  go_upto_region 1 with (fail)
  rw [← HWX.out]
  go_upto_region 9 with (fail)
  go_region_held3 (fun V => V.cell? ⟨W.heap.size, 1, none⟩ = some (.int .i64 a) ∧ V.cell? ⟨W.heap.size, 2, none⟩ = some (.int .i64 u)) (first | exact HXD | exact HX1 | exact HX2) (first | (go_at_call 17; refine PP.out.mono ?_; rintro e w1 ⟨rfl, hk1, hx1⟩; have HX1 : w1.cell? ⟨W.heap.size, 1, none⟩ = some (.int .i64 a) ∧ w1.cell? ⟨W.heap.size, 2, none⟩ = some (.int .i64 u) := (cells3 hx1).2; have HP := Lib.hid (PR.out _ hk1); have HKK := Lib.hid hx1; clear hk1 hx1) | (go_at_call 21; refine HP.out.mono ?_; rintro e w2 ⟨rfl, hk2, hx2⟩; have HX2 : w2.cell? ⟨W.heap.size, 1, none⟩ = some (.int .i64 a) ∧ w2.cell? ⟨W.heap.size, 2, none⟩ = some (.int .i64 u) := (cells3 (hx2 _ HKK.out)).2; have K2 := Lib.hid hk2; clear hk2 hx2))
  all_goals
    go_wp2
    go_ret
    exact ⟨rfl, _, _, K2.out⟩
set_option maxRecDepth 100000 in
set_option maxHeartbeats 4000000 in
theorem step_drop {c d : Nat} {mb gd : Option Nat} {m : Int} {l : List Pin} {w W : World} (h : Kb c mb d gd m l l w W) (a u : Int) (ha : I64v a) (hl : l.length ≤ 1000) :
    Calls Try.prog 8 #[.pointer (some ⟨c, 0, none⟩), .pointer (some ⟨d, 0, none⟩), .agg #[.int .i64 4, .int .i64 a, .int .i64 u]] W (StQ c d m (dropL l a) w) := by
  obtain ⟨k, hk⟩ : ∃ k : Int, k = 4 := ⟨_, rfl⟩
  rw [← hk]
  obtain ⟨hcl, hdl, hmn⟩ := h.ltp
  obtain ⟨WX, hWX, hkX, hbX⟩ := new3 W (.int .i64 k) (.int .i64 a) (.int .i64 u) 28
  have KX := Lib.hid (h.go hbX)
  obtain ⟨x0, x1, x2⟩ := cells3 hkX
  have HKX := Lib.hid hkX
  have HGD : Hid (gd ≠ some W.heap.size) := fun e => by have := (h.rp.row _ e).2; omega
  have HWX := Lib.hid hWX
  have hcx : W.heap.size ≠ c := by omega
  clear hWX hbX
  have PP : Hid (Calls Try.prog 18 #[.pointer (some ⟨c, 0, none⟩), .int .i64 a] WX.drew fun e V => e = .returned (.bool (hb l a)) ∧ Kb c mb d gd m (dropL l a) l w V ∧ V.heap[W.heap.size]? = some (.cells #[.int .i64 k, .int .i64 a, .int .i64 u] 28 (0, 0))) := by
    have KD := KX.out.go (bdr WX)
    have hcl := cnt_le l
    refine (Drop_c KD.pn ha).mono fun e V hq => ⟨hq.1, ?_, ?_⟩
    · exact KD.stepP hq.2.1 hq.2.2 (.inl rfl)
    · exact KD.keepP hq.2.2 HKX.out hcx hmn
  have PR : Hid (∀ V, Kb c mb d gd m (dropL l a) l w V → Calls Try.prog 22 #[.pointer (some ⟨d, 0, none⟩), .int .i64 a] V fun e V' => e = .returned (.bool (hb l a)) ∧ Kb c mb d gd m (dropL l a) (dropL l a) w V' ∧ (∀ o, V.heap[W.heap.size]? = some o → V'.heap[W.heap.size]? = some o)) := fun V hV => by
    refine (Drop_r hV.rp a (by omega)).mono fun e V' hq => ⟨hq.1, hV.stepR hq.2.1 hq.2.2 (.inl rfl), fun o ho => ?_⟩
    rw [hq.2.2.block _ (Array.getElem?_eq_some_iff.1 ho).1 (by omega) HGD.out.symm]; exact ho
  clear h hkX
  have HXD : WX.drew.cell? ⟨W.heap.size, 1, none⟩ = some (.int .i64 a) ∧ WX.drew.cell? ⟨W.heap.size, 2, none⟩ = some (.int .i64 u) := ⟨x1, x2⟩
  subst hk
  generalize dropL l a = l' at *
  generalize hb l a = v at *
  go_enter Try.func8, Try.ntmps8
  go_upto_region 1 with (fail)
  rw [← HWX.out]
  go_upto_region 11 with (fail)
  go_region_held3 (fun V => V.cell? ⟨W.heap.size, 1, none⟩ = some (.int .i64 a) ∧ V.cell? ⟨W.heap.size, 2, none⟩ = some (.int .i64 u)) (first | exact HXD | exact HX1 | exact HX2) (first | (go_at_call 18; refine PP.out.mono ?_; rintro e w1 ⟨rfl, hk1, hx1⟩; have HX1 : w1.cell? ⟨W.heap.size, 1, none⟩ = some (.int .i64 a) ∧ w1.cell? ⟨W.heap.size, 2, none⟩ = some (.int .i64 u) := (cells3 hx1).2; have HP := Lib.hid (PR.out _ hk1); have HKK := Lib.hid hx1; clear hk1 hx1) | (go_at_call 22; refine HP.out.mono ?_; rintro e w2 ⟨rfl, hk2, hx2⟩; have HX2 : w2.cell? ⟨W.heap.size, 1, none⟩ = some (.int .i64 a) ∧ w2.cell? ⟨W.heap.size, 2, none⟩ = some (.int .i64 u) := (cells3 (hx2 _ HKK.out)).2; have K2 := Lib.hid hk2; clear hk2 hx2))
  all_goals
    go_wp2
    go_ret
    exact ⟨rfl, _, _, K2.out⟩
set_option maxRecDepth 100000 in
set_option maxHeartbeats 4000000 in
theorem step_exp {c d : Nat} {mb gd : Option Nat} {m : Int} {l : List Pin} {w W : World} (h : Kb c mb d gd m l l w W) (a u : Int) (hl : l.length ≤ 1000) :
    Calls Try.prog 8 #[.pointer (some ⟨c, 0, none⟩), .pointer (some ⟨d, 0, none⟩), .agg #[.int .i64 5, .int .i64 a, .int .i64 u]] W (StQ c d m (expL l u) w) := by
  obtain ⟨k, hk⟩ : ∃ k : Int, k = 5 := ⟨_, rfl⟩
  rw [← hk]
  obtain ⟨hcl, hdl, hmn⟩ := h.ltp
  obtain ⟨WX, hWX, hkX, hbX⟩ := new3 W (.int .i64 k) (.int .i64 a) (.int .i64 u) 28
  have KX := Lib.hid (h.go hbX)
  obtain ⟨x0, x1, x2⟩ := cells3 hkX
  have HKX := Lib.hid hkX
  have HGD : Hid (gd ≠ some W.heap.size) := fun e => by have := (h.rp.row _ e).2; omega
  have HWX := Lib.hid hWX
  have hcx : W.heap.size ≠ c := by omega
  clear hWX hbX
  have PP : Hid (Calls Try.prog 19 #[.pointer (some ⟨c, 0, none⟩), .int .i64 u] WX.drew fun e V => e = .returned (.int .i64 (expN l u : Nat)) ∧ Kb c mb d gd m (expL l u) l w V ∧ V.heap[W.heap.size]? = some (.cells #[.int .i64 k, .int .i64 a, .int .i64 u] 28 (0, 0))) := by
    have KD := KX.out.go (bdr WX)
    have hcl := cnt_le l
    refine (Expire_c KD.pn u (by omega)).mono fun e V hq => ⟨hq.1, ?_, ?_⟩
    · exact KD.stepP hq.2.1 hq.2.2 (.inl rfl)
    · exact KD.keepP hq.2.2 HKX.out hcx hmn
  have PR : Hid (∀ V, Kb c mb d gd m (expL l u) l w V → Calls Try.prog 23 #[.pointer (some ⟨d, 0, none⟩), .int .i64 u] V fun e V' => e = .returned (.int .i64 (expN l u : Nat)) ∧ Kb c mb d gd m (expL l u) (expL l u) w V' ∧ (∀ o, V.heap[W.heap.size]? = some o → V'.heap[W.heap.size]? = some o)) := fun V hV => by
    refine (Expire_r hV.rp u (by omega)).mono fun e V' hq => ⟨hq.1, hV.stepR hq.2.1 hq.2.2 (.inl rfl), fun o ho => ?_⟩
    rw [hq.2.2.block _ (Array.getElem?_eq_some_iff.1 ho).1 (by omega) HGD.out.symm]; exact ho
  clear h hkX
  have HXD : WX.drew.cell? ⟨W.heap.size, 1, none⟩ = some (.int .i64 a) ∧ WX.drew.cell? ⟨W.heap.size, 2, none⟩ = some (.int .i64 u) := ⟨x1, x2⟩
  subst hk
  generalize expL l u = l' at *
  generalize expN l u = v at *
  go_enter Try.func8, Try.ntmps8
  go_upto_region 1 with (fail)
  rw [← HWX.out]
  go_upto_region 13 with (fail)
  go_region_held3 (fun V => V.cell? ⟨W.heap.size, 1, none⟩ = some (.int .i64 a) ∧ V.cell? ⟨W.heap.size, 2, none⟩ = some (.int .i64 u)) (first | exact HXD | exact HX1 | exact HX2) (first | (go_at_call 19; refine PP.out.mono ?_; rintro e w1 ⟨rfl, hk1, hx1⟩; have HX1 : w1.cell? ⟨W.heap.size, 1, none⟩ = some (.int .i64 a) ∧ w1.cell? ⟨W.heap.size, 2, none⟩ = some (.int .i64 u) := (cells3 hx1).2; have HP := Lib.hid (PR.out _ hk1); have HKK := Lib.hid hx1; clear hk1 hx1) | (go_at_call 23; refine HP.out.mono ?_; rintro e w2 ⟨rfl, hk2, hx2⟩; have HX2 : w2.cell? ⟨W.heap.size, 1, none⟩ = some (.int .i64 a) ∧ w2.cell? ⟨W.heap.size, 2, none⟩ = some (.int .i64 u) := (cells3 (hx2 _ HKK.out)).2; have K2 := Lib.hid hk2; clear hk2 hx2))
  all_goals
    go_wp2
    go_ret
    exact ⟨rfl, _, _, K2.out⟩
set_option maxRecDepth 100000 in
set_option maxHeartbeats 4000000 in
theorem step_no {c d : Nat} {mb gd : Option Nat} {m : Int} {l : List Pin} {w W : World} (h : Kb c mb d gd m l l w W) (k a u : Int) (h0 : ¬ k = 0) (h1 : ¬ k = 1) (h2 : ¬ k = 2) (h3 : ¬ k = 3) (h4 : ¬ k = 4) (h5 : ¬ k = 5) :
    Calls Try.prog 8 #[.pointer (some ⟨c, 0, none⟩), .pointer (some ⟨d, 0, none⟩), .agg #[.int .i64 k, .int .i64 a, .int .i64 u]] W (StQ c d m l w) := by
  obtain ⟨hcl, hdl, hmn⟩ := h.ltp
  obtain ⟨WX, hWX, hkX, hbX⟩ := new3 W (.int .i64 k) (.int .i64 a) (.int .i64 u) 28
  have KX := Lib.hid (h.go hbX)
  obtain ⟨x0, x1, x2⟩ := cells3 hkX
  have HKX := Lib.hid hkX
  have HWX := Lib.hid hWX
  have hcx : W.heap.size ≠ c := by omega
  clear hWX hbX
  clear h hkX
  go_enter Try.func8, Try.ntmps8
  go_upto_region 1 with (fail)
  rw [← HWX.out]
  go_wp2
  go_ret
  exact ⟨rfl, _, _, KX.out⟩
theorem step_c {c d : Nat} {mb gd : Option Nat} {m : Int} {l : List Pin} {w W : World} (h : Kb c mb d gd m l l w W) (o : OpT) (ha : I64v o.2.1) (hl : l.length ≤ 1000) :
    Calls Try.prog 8 #[.pointer (some ⟨c, 0, none⟩), .pointer (some ⟨d, 0, none⟩), .agg #[.int .i64 o.1, .int .i64 o.2.1, .int .i64 o.2.2]] W (StQ c d m (stepL m l o) w) := by
  obtain ⟨k, a, u⟩ := o
  unfold stepL
  simp only
  by_cases h0 : k = 0 ∨ k = 1 ∨ k = 2
  · rw [if_pos h0]; exact step_add h k a u h0 hl
  · rw [if_neg h0]
    by_cases h3 : k = 3
    · rw [if_pos h3]; subst h3; exact step_keep h a u ha hl
    · rw [if_neg h3]
      by_cases h4 : k = 4
      · rw [if_pos h4]; subst h4; exact step_drop h a u ha hl
      · rw [if_neg h4]
        by_cases h5 : k = 5
        · rw [if_pos h5]; subst h5; exact step_exp h a u hl
        · rw [if_neg h5]; exact step_no h k a u (fun e => h0 (.inl e)) (fun e => h0 (.inr (.inl e))) (fun e => h0 (.inr (.inr e))) h3 h4 h5
end Go.Proofs.Ytjjnjankjbiigaa.Pn
