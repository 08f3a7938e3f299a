/- The law's step: a version from the last one on; no other condition. -/
import Derived.Test.YtfilammedofdoaaCnR
namespace Go.Proofs.Ytfilammedofdoaa.Cn
open Go.RowKit Go.Lib Go.Shelf Go.Sort
set_option linter.unusedSimpArgs false
set_option linter.unusedVariables false

set_option maxRecDepth 100000 in
set_option maxHeartbeats 8000000 in
theorem step_put2 {N c : Nat} {gb : Option Nat} {l : List Ver} {w W : World} (h : Kc N c gb l w W) (sv : Value) (hO : OwV 27 w.heap.size sv l W) (k : Int) (v : Ver) (r : Int) (hN : N + 1 ≤ 1000000) (hk : k = 0 ∨ k = 1 ∨ k = 2) (hl0 : l = []) :
    Calls Try.prog 7 #[.pointer (some ⟨c, 0, none⟩), sv, opV (k, v, true, r)] W (StQ N c l (k, v, true, r) w) := by
  obtain ⟨v1, v2, v3⟩ := v
  subst hl0
  obtain ⟨ao, cap, hsv⟩ := own_lenV hO
  subst hsv
  have HS := Lib.hid (step_put (l := []) (o := (k, (v1, v2, v3), true, r)) hk)
  have HAV : Hid (addv [] (k, (v1, v2, v3), true, r) = (v1, v2, v3)) := by show _ = _; unfold addv; rw [if_neg (by simp)]
  obtain ⟨W0, hW0, hk0, hb0⟩ := new6 W (.int .i64 k) (.int .i64 v1) (.string v2) (.bool v3) (.bool true) (.int .i64 r) 29
  obtain ⟨W1, hW1, hk1, hb1⟩ := new3 W0 (.int .i64 v1) (.string v2) (.bool v3) 27
  have hs0 : W0.heap.size = W.heap.size + 1 := by rw [hW0]; simp
  rw [hs0] at hk1 hb1
  have hll := h.ch.le
  have HW0 := Lib.hid hW0
  have HW1 := Lib.hid hW1
  have HB1 : Hid (Below W.heap.size W W1) := hb0.trans (hb1.mono (by omega))
  obtain ⟨W2, hW2⟩ : ∃ W2, W2 = W1 := ⟨_, rfl⟩
  have HK2 : Hid (W2.heap[W.heap.size + 1]? = some (.cells #[.int .i64 v1, .string v2, .bool v3] 27 (0, 0))) := by rw [hW2]; exact hk1
  have HB2 : Hid (Below W.heap.size W W2) := by rw [hW2]; exact HB1.out
  have HW2 : Hid (W2 = W1) := hW2
  clear hW2
  have H2 := Lib.hid (h.go HB2.out)
  have HR := Lib.hid (PutR_c w.heap.size _ [] (v1, v2, v3) W2 (hO.go HB2.out) H2.out.bel.size (by omega))
  have hlt2 : W.heap.size + 1 < W2.heap.size := (Array.getElem?_eq_some_iff.1 HK2.out).1
  unfold PtR aggV at HR
  unfold opV
  rcases hk with rfl | rfl | rfl
  all_goals
    (go_enter Try.func7, Try.ntmps7
     go_wp2_with fail
     rw [← HW0.out, ← HW1.out, ← HW2.out])

    refine HR.out.mono ?_
    rintro e w3 ⟨x, rfl, hox, hb3⟩
    have H3 := Lib.hid (H2.out.go hb3)
    have HOX := Lib.hid (hox.go (Below.refl _ _))
    have hk3 := (hb3.block _ hlt2).trans HK2.out
    obtain ⟨p0, p1, p2⟩ := cells3 hk3
    have HBO := Lib.hid (both_c (ys := []) H3.out (v1, v2, v3) hN HOX.out)
    unfold BoQ aggV at HBO
    have HFE : Hid (∀ V, (∃ gb', Kc (N + 1) c gb' (putL [] (v1, v2, v3)) w V ∧ OwV 27 w.heap.size x (putL [] (v1, v2, v3)) V) → StQ N c [] (_, (v1, v2, v3), true, r) w (.returned (.tuple #[x, .bool true])) V) := fun V hv => by
      obtain ⟨gb', h1, h2⟩ := hv
      exact ⟨x, gb', rfl, by rw [HS.out, HAV.out]; exact h1, by rw [HS.out, HAV.out]; exact h2⟩
    clear hox hb3 hk3
    revert HBO
    generalize putE [] (v1, v2, v3) = pe
    intro HBO
    go_wp2_with fail
    refine HBO.out.mono ?_
    rintro e w4 ⟨rfl, hv⟩
    have HV := Lib.hid hv
    clear hv
    go_wp2
    exact bodyPost_ret (v := .tuple #[x, .bool true]) (by simp [results, Try.results7, go_sem]) rfl (HFE.out _ HV.out)
set_option maxRecDepth 100000 in
set_option maxHeartbeats 8000000 in
theorem step_put3 {N c : Nat} {gb : Option Nat} {l : List Ver} {w W : World} (h : Kc N c gb l w W) (sv : Value) (hO : OwV 27 w.heap.size sv l W) (k : Int) (v : Ver) (r : Int) (hN : N + 1 ≤ 1000000) (hk : k = 0 ∨ k = 1 ∨ k = 2) (hlp : 0 < l.length) (hbd : Bnd l) :
    Calls Try.prog 7 #[.pointer (some ⟨c, 0, none⟩), sv, opV (k, v, true, r)] W (StQ N c l (k, v, true, r) w) := by
  obtain ⟨v1, v2, v3⟩ := v
  have HS := Lib.hid (step_put (l := l) (o := (k, (v1, v2, v3), true, r)) hk)
  obtain ⟨ao, cap, hsv⟩ := own_lenV hO
  subst hsv
  obtain ⟨m, hm⟩ : ∃ m, m = l.length - 1 := ⟨_, rfl⟩
  have hml : m < l.length := by omega
  obtain ⟨y, hy⟩ : ∃ y, y = (lastV l).1 := ⟨_, rfl⟩
  have hym : y = l[m].1 := by rw [hy]; unfold lastV; rw [← hm, getD_at hml]
  have HAV : Hid (addv l (k, (v1, v2, v3), true, r) = (y + bits .and .i64 v1 7, v2, v3)) := by show _ = _; unfold addv; rw [if_pos ⟨rfl, hlp⟩, hy]; rfl
  clear hy
  have hyb := hbd l[m] (List.getElem_mem hml)
  rw [← hym] at hyb
  obtain ⟨hy1, hy2⟩ := hyb
  obtain ⟨hq1, hq2⟩ : 0 ≤ bits .and .i64 v1 7 ∧ bits .and .i64 v1 7 ≤ 7 := lo3_bd v1
  have e1 : ((l.length : Int) - 1).toNat = m := by omega
  have e2 : (0 : Int) ≤ (l.length : Int) - 1 := by omega
  have e3 : (1 : Int) ≤ (l.length : Int) := by omega
  have e4 : (l.length : Int) - 1 < (l.length : Int) := by omega
  have e5 : (0 : Int) < (l.length : Int) := by omega
  obtain ⟨W0, hW0, hk0, hb0⟩ := new6 W (.int .i64 k) (.int .i64 v1) (.string v2) (.bool v3) (.bool true) (.int .i64 r) 29
  obtain ⟨W1, hW1, hk1, hb1⟩ := new3 W0 (.int .i64 v1) (.string v2) (.bool v3) 27
  have hs0 : W0.heap.size = W.heap.size + 1 := by rw [hW0]; simp
  rw [hs0] at hk1 hb1
  have hll := h.ch.le
  have HW0 := Lib.hid hW0
  have HW1 := Lib.hid hW1
  have HB1 : Hid (Below W.heap.size W W1) := hb0.trans (hb1.mono (by omega))
  obtain ⟨g, off, hao, hg, hat⟩ := rdv_at hO.rd hlp
  subst hao
  obtain ⟨p0, _, _⟩ := hat m hml
  rw [← hym, hm] at p0
  have hg1 : g ≠ W.heap.size := by omega
  have hg2 : g ≠ W.heap.size + 1 := by omega
  have hg3 : g < W.heap.size + 1 := by omega
  obtain ⟨W2, hW2⟩ : ∃ W2, W2 = (W0.alloc (.cells #[.int .i64 (y + bits .and .i64 v1 7), .string v2, .bool v3] 27)).drew := ⟨_, rfl⟩
  have HK2 : Hid (W2.heap[W.heap.size + 1]? = some (.cells #[.int .i64 (y + bits .and .i64 v1 7), .string v2, .bool v3] 27 (0, 0))) := by
    have := heap_alloc_new W0 (.cells #[.int .i64 (y + bits .and .i64 v1 7), .string v2, .bool v3] 27)
    rw [hs0] at this
    show _ = _
    rw [hW2]; exact this
  have HB2 : Hid (Below W.heap.size W W2) := by
    show Below _ _ _
    rw [hW2]; exact (hb0.alloc (by omega) _).drew
  have HW2 := Lib.hid hW2
  clear hW2 hat hk1 hym hW1 hb1

  have H2 := Lib.hid (h.go HB2.out)
  have HR := Lib.hid (PutR_c w.heap.size _ l (y + bits .and .i64 v1 7, v2, v3) W2 (hO.go HB2.out) H2.out.bel.size (by omega))
  have hlt2 : W.heap.size + 1 < W2.heap.size := (Array.getElem?_eq_some_iff.1 HK2.out).1
  unfold PtR aggV at HR
  unfold opV
  rcases hk with rfl | rfl | rfl
  all_goals
    (go_enter Try.func7, Try.ntmps7
     go_wp2_with fail
     go_region
     go_wp2_with fail
     rw [← HW0.out, ← HW2.out])

    refine HR.out.mono ?_
    rintro e w3 ⟨x, rfl, hox, hb3⟩
    have H3 := Lib.hid (H2.out.go hb3)
    have HOX := Lib.hid (hox.go (Below.refl _ _))
    have hk3 := (hb3.block _ hlt2).trans HK2.out
    obtain ⟨p0, p1, p2⟩ := cells3 hk3
    have HBO := Lib.hid (both_c (ys := []) H3.out (y + bits .and .i64 v1 7, v2, v3) hN HOX.out)
    unfold BoQ aggV at HBO
    have HFE : Hid (∀ V, (∃ gb', Kc (N + 1) c gb' (putL l (y + bits .and .i64 v1 7, v2, v3)) w V ∧ OwV 27 w.heap.size x (putL l (y + bits .and .i64 v1 7, v2, v3)) V) → StQ N c l (_, (v1, v2, v3), true, r) w (.returned (.tuple #[x, .bool true])) V) := fun V hv => by
      obtain ⟨gb', h1, h2⟩ := hv
      exact ⟨x, gb', rfl, by rw [HS.out, HAV.out]; exact h1, by rw [HS.out, HAV.out]; exact h2⟩
    clear hox hb3 hk3
    revert HBO
    generalize putE l (y + bits .and .i64 v1 7, v2, v3) = pe
    intro HBO
    go_wp2_with fail
    refine HBO.out.mono ?_
    rintro e w4 ⟨rfl, hv⟩
    have HV := Lib.hid hv
    clear hv
    go_wp2
    exact bodyPost_ret (v := .tuple #[x, .bool true]) (by simp [results, Try.results7, go_sem]) rfl (HFE.out _ HV.out)
end Go.Proofs.Ytfilammedofdoaa.Cn
