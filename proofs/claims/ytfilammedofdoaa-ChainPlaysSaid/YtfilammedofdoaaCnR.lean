/- The law's step: both, by one call; no other condition. -/
import Derived.Test.YtfilammedofdoaaCnQ
namespace Go.Proofs.Ytfilammedofdoaa.Cn
open Go.RowKit Go.Lib Go.Shelf Go.Sort
set_option linter.unusedSimpArgs false
set_option linter.unusedVariables false

def StQ (N c : Nat) (l : List Ver) (o : OpT) (w : World) (e : Ending) (V : World) : Prop := ∃ x gb', e = .returned (.tuple #[x, .bool true]) ∧ Kc (N + 1) c gb' (stepL l o) w V ∧ OwV 27 w.heap.size x (stepL l o) V
theorem Kc.up {N N' c : Nat} {gb : Option Nat} {l : List Ver} {w W : World} (h : Kc N c gb l w W) (hN : N ≤ N') : Kc N' c gb l w W := ⟨h.ch.up hN, h.bel, h.asc, h.ge⟩
theorem new6 (w : World) (a b c d e f : Value) (T : TypeId) : ∃ W, W = w.alloc (.cells #[a, b, c, d, e, f] T) ∧ W.heap[w.heap.size]? = some (.cells #[a, b, c, d, e, f] T (0, 0)) ∧ Below w.heap.size w W := ⟨_, rfl, heap_alloc_new w _, (Below.refl _ _).alloc (Nat.le_refl _) _⟩
theorem step_put {l : List Ver} {o : OpT} (h : o.1 = 0 ∨ o.1 = 1 ∨ o.1 = 2) : stepL l o = putL l (addv l o) := if_pos h
theorem step_cmp {l : List Ver} {o : OpT} (h : o.1 = 3) : stepL l o = cmp l o.2.2.2 := by unfold stepL; rw [if_neg (by omega), if_pos h]
theorem step_no {l : List Ver} {o : OpT} (h : ¬ (o.1 = 0 ∨ o.1 = 1 ∨ o.1 = 2)) (h3 : o.1 ≠ 3) : stepL l o = l := by unfold stepL; rw [if_neg h, if_neg h3]
/-- what both Puts leave -/
def BoQ (N c : Nat) (l : List Ver) (v : Ver) (w : World) (x : Value) (e : Ending) (V : World) : Prop := e = .returned (.int .i64 (putE l v)) ∧ ∃ gb', Kc (N + 1) c gb' (putL l v) w V ∧ OwV 27 w.heap.size x (putL l v) V
theorem both_c {N c : Nat} {gb : Option Nat} {l ys : List Ver} {w W : World} (h : Kc N c gb l w W) (v : Ver) (hN : N + 1 ≤ 1000000) {x : Value} (hO : OwV 27 w.heap.size x (putL l v) W) :
    Calls Try.prog 17 #[.pointer (some ⟨c, 0, none⟩), aggV v] W (BoQ N c l v w x) :=
  (Put_all h v hN).mono fun e V hq => by
    have hch := hq.2.choose_spec.2.1
    obtain ⟨he, gb', hk⟩ := h.step hq (putL_asc h.asc v)
    exact ⟨he, gb', hk, own_chg hO h.ch hch⟩
set_option maxRecDepth 100000 in
set_option maxHeartbeats 4000000 in
theorem step_none {N c : Nat} {gb : Option Nat} {l : List Ver} {w W : World} (h : Kc N c gb l w W) (sv : Value) (hO : OwV 27 w.heap.size sv l W) (k : Int) (v : Ver) (b : Bool) (r : Int) (hk : ¬ (k = 0 ∨ k = 1 ∨ k = 2)) (hk3 : k ≠ 3) :
    Calls Try.prog 7 #[.pointer (some ⟨c, 0, none⟩), sv, opV (k, v, b, r)] W (StQ N c l (k, v, b, r) w) := by
  obtain ⟨v1, v2, v3⟩ := v
  have HS := Lib.hid (step_no (l := l) (o := (k, (v1, v2, v3), b, r)) hk hk3)
  have h0 : ¬ k = 0 := fun e => hk (.inl e)
  have h1 : ¬ k = 1 := fun e => hk (.inr (.inl e))
  have h2 : ¬ k = 2 := fun e => hk (.inr (.inr e))
  have h3 : ¬ k = 3 := hk3
  have H := Lib.hid h
  have HO := Lib.hid hO
  obtain ⟨W0, hW0, hk0, hb0⟩ := new6 W (.int .i64 k) (.int .i64 v1) (.string v2) (.bool v3) (.bool b) (.int .i64 r) 29
  have HW0 := Lib.hid hW0
  have HB0 := Lib.hid hb0
  clear h hO hk hk3 hW0 hk0 hb0
  unfold opV
  go_enter Try.func7, Try.ntmps7
  go_wp2
  rw [← HW0.out]
  exact bodyPost_ret (v := .tuple #[sv, .bool true]) (by simp [results, Try.results7, go_sem]) rfl ⟨sv, gb, rfl, by rw [HS.out]; exact (H.out.go HB0.out).up (Nat.le_succ _), by rw [HS.out]; exact HO.out.go HB0.out⟩
set_option maxRecDepth 100000 in
set_option maxHeartbeats 4000000 in
theorem step_com {N c : Nat} {gb : Option Nat} {l : List Ver} {w W : World} (h : Kc N c gb l w W) (sv : Value) (hO : OwV 27 w.heap.size sv l W) (v : Ver) (b : Bool) (r : Int) (hN : N + 1 ≤ 1000000) :
    Calls Try.prog 7 #[.pointer (some ⟨c, 0, none⟩), sv, opV (3, v, b, r)] W (StQ N c l (3, v, b, r) w) := by
  obtain ⟨v1, v2, v3⟩ := v
  have HS := Lib.hid (step_cmp (l := l) (o := (3, (v1, v2, v3), b, r)) rfl)
  obtain ⟨ao, cap, hsv⟩ := own_lenV hO
  subst hsv
  obtain ⟨W0, hW0, hk0, hb0⟩ := new6 W (.int .i64 3) (.int .i64 v1) (.string v2) (.bool v3) (.bool b) (.int .i64 r) 29
  have hll := h.ch.le
  have HW0 := Lib.hid hW0
  have HK0 := Lib.hid hk0
  have H0 := Lib.hid (h.go hb0)
  have HR := Lib.hid (CompactR_c ao cap l r W0 (hO.rd.go hb0) h.asc (by omega))
  have hlt0 : W.heap.size < W0.heap.size := (Array.getElem?_eq_some_iff.1 hk0).1
  have HC : Hid ((cmp l r).length = l.length - spr l r) := cmp_len l r
  have hsl : spr l r ≤ l.length := Nat.le_trans (spr_le l r) (cnt_le l r)
  clear h hO hW0 hk0 hb0
  unfold opV
  go_enter Try.func7, Try.ntmps7
  go_wp2_with fail
  rw [← HW0.out]
  refine HR.out.mono ?_
  rintro e w1 ⟨x, rfl, hox, hb1⟩
  obtain ⟨aox, capx, hx⟩ := own_lenV hox
  subst hx
  have H1 := Lib.hid (H0.out.go hb1)
  have HOX := Lib.hid (hox.mono H0.out.bel.size)
  have hk1 := (hb1.block _ hlt0).trans HK0.out
  have p5 := cell_of_row _ _ 5 _ _ _ hk1
  simp at p5
  have HSP := Lib.hid (Spare_c w.heap.size c N gb l r w1 H1.out.ch (by omega) H1.out.asc)
  have HK1 := Lib.hid hk1
  have hlt1 : W.heap.size < w1.heap.size := (Array.getElem?_eq_some_iff.1 hk1).1
  have hsub : (l.length : Int) - ((cmp l r).length : Int) = (spr l r : Nat) := by have := HC.out; omega
  have hcl : (cmp l r).length ≤ 1000000 := by have := HC.out; omega
  clear hox hb1 hk1
  go_wp2_with fail
  refine HSP.out.mono ?_
  rintro e w2 ⟨rfl, hb2⟩
  have H2 := Lib.hid (H1.out.go hb2)
  have hk2 := (hb2.block _ hlt1).trans HK1.out
  have q5 := cell_of_row _ _ 5 _ _ _ hk2
  simp at q5
  have HO2 := Lib.hid (HOX.out.go hb2)
  have HCC := Lib.hid (Compact_c w.heap.size c N gb l r w2 H2.out.ch (by omega) H2.out.bel.size H2.out.asc)
  clear hb2 hk2
  go_wp2_with fail
  refine HCC.out.mono ?_
  intro e w3 hq
  have hch := hq.2.choose_spec.2.1
  obtain ⟨rfl, gb', hk⟩ := H2.out.step hq (cmp_asc H2.out.asc r)
  have HK3 := Lib.hid hk
  have HO3 := Lib.hid (own_chg HO2.out H2.out.ch hch)
  clear hq hch hk
  go_wp2
  exact bodyPost_ret (v := .tuple #[.slice aox (cmp l r).length capx, .bool true]) (by simp [results, Try.results7, go_sem]) rfl ⟨_, gb', rfl, by rw [HS.out]; exact HK3.out.up (Nat.le_succ _), by rw [HS.out]; exact HO3.out⟩
set_option maxRecDepth 100000 in
set_option maxHeartbeats 8000000 in
theorem step_put1 {N c : Nat} {gb : Option Nat} {l : List Ver} {w W : World} (h : Kc N c gb l w W) (sv : Value) (hO : OwV 27 w.heap.size sv l W) (k : Int) (v : Ver) (r : Int) (hN : N + 1 ≤ 1000000) (hk : k = 0 ∨ k = 1 ∨ k = 2) :
    Calls Try.prog 7 #[.pointer (some ⟨c, 0, none⟩), sv, opV (k, v, false, r)] W (StQ N c l (k, v, false, r) w) := by
  obtain ⟨v1, v2, v3⟩ := v
  have HS := Lib.hid (step_put (l := l) (o := (k, (v1, v2, v3), false, r)) hk)
  have HAV : Hid (addv l (k, (v1, v2, v3), false, r) = (v1, v2, v3)) := by show _ = _; unfold addv; rw [if_neg (by simp)]
  obtain ⟨W0, hW0, hk0, hb0⟩ := new6 W (.int .i64 k) (.int .i64 v1) (.string v2) (.bool v3) (.bool false) (.int .i64 r) 29
  obtain ⟨W1, hW1, hk1, hb1⟩ := new3 W0 (.int .i64 v1) (.string v2) (.bool v3) 27
  have hs0 : W0.heap.size = W.heap.size + 1 := by rw [hW0]; simp
  rw [hs0] at hk1 hb1
  have hll := h.ch.le
  have HW0 := Lib.hid hW0
  have HW1 := Lib.hid hW1
  have HB1 : Hid (Below W.heap.size W W1) := hb0.trans (hb1.mono (by omega))
  obtain ⟨W2, hW2⟩ : ∃ W2, W2 = W1 := ⟨_, rfl⟩
  have HK2 : Hid (W2.heap[W.heap.size + 1]? = some (.cells #[.int .i64 v1, .string v2, .bool v3] 27 (0, 0))) := by rw [hW2]; exact hk1
  have HB2 : Hid (Below W.heap.size W W2) := by rw [hW2]; exact HB1.out
  have HW2 : Hid (W2 = W1) := hW2
  clear hW2
  have H2 := Lib.hid (h.go HB2.out)
  have HR := Lib.hid (PutR_c w.heap.size sv l (v1, v2, v3) W2 (hO.go HB2.out) H2.out.bel.size (by omega))
  have hlt2 : W.heap.size + 1 < W2.heap.size := (Array.getElem?_eq_some_iff.1 HK2.out).1
  unfold PtR aggV at HR
  unfold opV
  rcases hk with rfl | rfl | rfl
  all_goals
    (go_enter Try.func7, Try.ntmps7
     go_wp2_with fail
     rw [← HW0.out, ← HW1.out, ← HW2.out])

    refine HR.out.mono ?_
    rintro e w3 ⟨x, rfl, hox, hb3⟩
    have H3 := Lib.hid (H2.out.go hb3)
    have HOX := Lib.hid (hox.go (Below.refl _ _))
    have hk3 := (hb3.block _ hlt2).trans HK2.out
    obtain ⟨p0, p1, p2⟩ := cells3 hk3
    have HBO := Lib.hid (both_c (ys := []) H3.out (v1, v2, v3) hN HOX.out)
    unfold BoQ aggV at HBO
    have HFE : Hid (∀ V, (∃ gb', Kc (N + 1) c gb' (putL l (v1, v2, v3)) w V ∧ OwV 27 w.heap.size x (putL l (v1, v2, v3)) V) → StQ N c l (_, (v1, v2, v3), false, r) w (.returned (.tuple #[x, .bool true])) V) := fun V hv => by
      obtain ⟨gb', h1, h2⟩ := hv
      exact ⟨x, gb', rfl, by rw [HS.out, HAV.out]; exact h1, by rw [HS.out, HAV.out]; exact h2⟩
    clear hox hb3 hk3
    revert HBO
    generalize putE l (v1, v2, v3) = pe
    intro HBO
    go_wp2_with fail
    refine HBO.out.mono ?_
    rintro e w4 ⟨rfl, hv⟩
    have HV := Lib.hid hv
    clear hv
    go_wp2
    exact bodyPost_ret (v := .tuple #[x, .bool true]) (by simp [results, Try.results7, go_sem]) rfl (HFE.out _ HV.out)
end Go.Proofs.Ytfilammedofdoaa.Cn
