/- Contracts and plain mathematics of some packages' functions, laid together; conditions as each one says. -/
import Derived.Test.YtpgllcdcpdeicaaGreatDoorJvGf
import Derived.Test.YtpgllcdcpdeicaaGreatDoorJvGi
namespace Go.Proofs.YtpgllcdcpdeicaaGreatDoor.Jv
open Jt
open Go.RowKit Go.ChangeMaps Go.MapKept Go.WideMaps
set_option linter.unusedSimpArgs false
set_option linter.unusedVariables false

/-- what whole answers -/
def WhQ (g : Nat) (x : Except Er JV) (w : World) (e : Ending) (w' : World) : Prop :=
  w.grownBy w' (some g) ∧ match x with
  | .ok v => ∃ xk xb xn xt xo xl xq yo yl yq, e = .returned (.tuple #[.agg (c6 xk xb xn xt xo xl xq yo yl yq).toArray, .nilIface]) ∧ Rep (fun k => w.heap.size ≤ k) w' v (c6 xk xb xn xt xo xl xq yo yl yq)
  | .error r => e = .returned (.tuple #[zVl, fauV r])
/-- the whole's value, with a text's own steps -/
def whP (l : List UInt8) (room : Int) : Except Er JV :=
  match nx l 0 with
  | .error e => .error e
  | .ok t =>
    match pv l (2 * l.length + 1) room t with
    | .error e => .error e
    | .ok r =>
      match nx l r.2 with
      | .error e => if e.2 = 6 then .ok r.1 else .error e
      | .ok u => .error (u.a, 3)
theorem whP_eq (l : List UInt8) (room : Int) : whole l room = whP l room := rfl
abbrev GX (g T : Nat) (j : Nat) : Prop := j = g ∨ T ≤ j
theorem wh_er {g : Nat} {x : Except Er JV} {r : Er} {w V V' : World} (hx : x = .error r) (hg : Grw (GX g w.heap.size) w V) (hZ : Grw (fun j => j = w.heap.size) V V') : WhQ g x w (.returned (.tuple #[zVl, fauV r])) V' := by
  subst hx
  exact ⟨gb_of_grw (hg.trans hZ (fun j _ (e : j = w.heap.size) => Or.inr (show w.heap.size ≤ j by omega))) (fun j hj e => by rcases e with e | e <;> omega), rfl⟩
theorem wh_ok {g B : Nat} {x : Except Er JV} {v : JV} {w V V' : World} (hx : x = .ok v) (hg : Grw (GX g w.heap.size) w V) (hZ : Grw (fun j => j = w.heap.size) V V') (hB : w.heap.size < B) {xk : Int} {xb : Bool} {xn : Int} {xt : ByteArray} {xo : Option Addr} {xl xq : Nat} {yo : Option Addr} {yl yq : Nat} (hr : Rep (fun k => B ≤ k) V v (c6 xk xb xn xt xo xl xq yo yl yq)) : WhQ g x w (.returned (.tuple #[.agg #[.int .i64 xk, .bool xb, .int .i64 xn, .string xt, .slice xo xl xq, .slice yo yl yq], .nilIface])) V' := by
  subst hx
  refine ⟨gb_of_grw (hg.trans hZ (fun j _ (e : j = w.heap.size) => Or.inr (show w.heap.size ≤ j by omega))) (fun j hj e => by rcases e with e | e <;> omega), xk, xb, xn, xt, xo, xl, xq, yo, yl, yq, rfl, ?_⟩
  exact Rep.mono (fun k hk _ => by omega) _ (Rep.keep ⟨hZ.size, fun k hk hl => hZ.block hl (by omega)⟩ _ hr)
theorem grw_gb {g T : Nat} {w V V' : World} (h : Grw (GX g T) w V) (k : V.grownBy V' (some g)) : Grw (GX g T) w V' := h.trans (Grw.of_gb (X := fun j => j = g) k (fun j e => by injection e with e; exact e.symm)) (fun j _ e => .inl e)
theorem grw_be {g : Nat} {w V V' : World} (h : Grw (GX g w.heap.size) w V) (k : Below V.heap.size V V') : Grw (GX g w.heap.size) w V' := h.trans (Grw.of_below (X := fun j => V.heap.size ≤ j) k (fun j h _ => h)) (fun j hj (e : V.heap.size ≤ j) => Or.inr (by have := h.size; omega))
theorem one_v6 (w : World) (xk : Int) (xb : Bool) (xn : Int) (xt : ByteArray) (xo : Option Addr) (xl xq : Nat) (yo : Option Addr) (yl yq : Nat) : ∃ W, W = w.alloc (obV xk xb xn xt xo xl xq yo yl yq) ∧ W.heap[w.heap.size]? = some (obV xk xb xn xt xo xl xq yo yl yq) ∧ Below w.heap.size w W := ⟨_, rfl, heap_alloc_new w _, (Below.refl _ _).alloc (Nat.le_refl _) _⟩
set_option maxRecDepth 100000 in
set_option maxHeartbeats 8000000 in
theorem whole_q (g : Nat) (s : ByteArray) (room : Int) (w : World) (hR : Rd g s 0 w) (hE : Env w) (hgN : 4 ≤ g) (hs : s.size ≤ 1000) (hr2 : room ≤ 1000) :
    Calls Tryz.prog 9 #[.pointer (some ⟨g, 0, none⟩), .int .i64 room] w (WhQ g (whole s.data.toList room) w) := by
  rw [whP_eq]
  have hl := size_l s
  have hgl := hR.lt
  obtain ⟨W0, hW0, hk0, hb0⟩ := one_v w
  have HGL := Lib.hid hgl
  have HS : Hid (s.size ≤ 1000 ∧ room ≤ 1000 ∧ s.size = s.data.toList.length) := ⟨hs, hr2, hl⟩
  have HN1 := Lib.hid (next_q g 0 s W0 (hR.go hb0) (hE.go hb0) hs (Nat.zero_le _))
  have HE0 := Lib.hid (hE.go hb0)
  have HR0 := Lib.hid hk0
  have HG0 : Hid (Grw (GX g w.heap.size) w W0) := Grw.of_below hb0 (fun k h1 h2 => .inr h1)
  have HL0 : Hid (w.heap.size < W0.heap.size) := (Array.getElem?_eq_some_iff.1 hk0).1
  have HW0 := Lib.hid hW0
  obtain ⟨l, hll⟩ : ∃ l, l = s.data.toList := ⟨_, rfl⟩
  rw [← hll] at HN1 HS ⊢
  have HLL := Lib.hid hll
  clear hW0 hk0 hb0 hl hgl hs hr2 hR hE hll
  go_enter Tryz.func9, Tryz.ntmps9
  go_upto_region 1 with (fail)
  rw [← HW0.out]
  go_wp2_with fail
  (with_reducible refine HN1.out.mono ?_)
  intro e w1 hq
  cases hx1 : nx l 0 with
  | error r =>
    rw [hx1] at hq
    obtain ⟨hg1, rfl, -⟩ := hq
    have HX : Hid (whP l room = .error r) := by show _ = _; unfold whP; rw [hx1]
    have HR1 : Hid (w1.heap[w.heap.size]? = some (obV 0 false 0 ⟨#[]⟩ none 0 0 none 0 0)) := (hg1.block _ HL0.out (fun e => by injection e with e; have := HGL.out; omega)).trans HR0.out
    have HG1 := Lib.hid (grw_gb HG0.out hg1)
    obtain ⟨W1, hW1, hk1, hb1⟩ := newT w1 0 0 0 ⟨#[]⟩ 0
    have HW1 := Lib.hid hW1
    have HR2 : Hid (W1.heap[w.heap.size]? = some (obV 0 false 0 ⟨#[]⟩ none 0 0 none 0 0)) := (hb1.block _ (Array.getElem?_eq_some_iff.1 HR1.out).1).trans HR1.out
    have HG2 := Lib.hid (grw_be HG1.out hb1)
    have nF := neF (r.1 : Int) r.2
    clear hg1 hx1 hW1 hk1 hb1
    go_upto_region 2 with (fail)
    rw [← HW1.out]
    obtain ⟨u0, u1, u2, u3, u4, u5⟩ := cells6 HR2.out
    have z0 := frz HR2.out 0
    have z1 := frz HR2.out 1
    have z2 := frz HR2.out 2
    have z3 := frz HR2.out 3
    have z4 := frz HR2.out 4
    have z5 := frz HR2.out 5
    have HH := Lib.hid (set6 HR2.out (.int .i64 0) (.bool false) (.int .i64 0) (.string ⟨#[]⟩) (.slice none 0 0) (.slice none 0 0))
    have HZ := Lib.hid (gr_set6 W1 w.heap.size (.int .i64 0) (.bool false) (.int .i64 0) (.string ⟨#[]⟩) (.slice none 0 0) (.slice none 0 0))
    go_wp2_with fail
    obtain ⟨d0, d1, d2, d3, d4, d5⟩ := cells6 HH.out
    clear u0 u1 u2 u3 u4 u5 z0 z1 z2 z3 z4 z5
    (with_reducible refine bodyPost_ret (v := .tuple #[zVl, fauV r]) (by simp [results, Tryz.results9, go_sem, d0, d1, d2, d3, d4, d5]) rfl ?_)
    exact wh_er HX.out HG2.out HZ.out
  | ok t =>
    rw [hx1] at hq
    obtain ⟨hg1, rfl, hrd1⟩ := hq
    have ht := nx_ok4 (Nat.zero_le _) hx1
    have HR1 : Hid (w1.heap[w.heap.size]? = some (obV 0 false 0 ⟨#[]⟩ none 0 0 none 0 0)) := (hg1.block _ HL0.out (fun e => by injection e with e; have := HGL.out; omega)).trans HR0.out
    have HG1 := Lib.hid (grw_gb HG0.out hg1)
    have hE1 : Env w1 := env_gb HE0.out hg1 hgN (by have := HGL.out; have := HL0.out; omega)
    obtain ⟨W1, hW1, hk1, hb1⟩ := newT w1 (t.k : Int) (t.a : Int) (t.b : Int) (mkS t.t) t.n
    have HW1 := Lib.hid hW1
    have HK1 := Lib.hid hk1
    have hlT : w.heap.size < w1.heap.size := (Array.getElem?_eq_some_iff.1 HR1.out).1
    have HLT := Lib.hid hlT
    have HR2 : Hid (W1.heap[w.heap.size]? = some (obV 0 false 0 ⟨#[]⟩ none 0 0 none 0 0)) := (hb1.block _ hlT).trans HR1.out
    have HG2 := Lib.hid (grw_be HG1.out hb1)
    have HV := Lib.hid (value_q g s room t W1 hgN HS.out.1 HS.out.2.1 (by rw [HS.out.2.2]; exact ⟨ht.2.1, ht.2.2.1, ht.2.2.2⟩) (hrd1.go hb1) (hE1.go hb1))
    rw [← HLL.out, show 2 * s.size + 1 = 2 * l.length + 1 by rw [HS.out.2.2]] at HV
    have HE1 := Lib.hid (hE1.go hb1)
    have HX1 := Lib.hid hx1
    have HT := Lib.hid ht
    have nN := neN
    obtain ⟨a0, a1, a2, a3, a4⟩ := cells5 hk1
    clear hg1 hrd1 ht hE1 hW1 hk1 hb1 hlT hx1
    go_upto_region 2 with (fail)
    rw [← HW1.out]
    go_wp2_with fail
    (with_reducible refine HV.out.mono ?_)
    intro e w2 hq
    clear HV a0 a1 a2 a3 a4
    cases hx2 : pv l (2 * l.length + 1) room t with
    | error r =>
      rw [hx2] at hq
      obtain ⟨hg2, rfl, -⟩ := hq
      have HX : Hid (whP l room = .error r) := by show _ = _; unfold whP; rw [HX1.out]; dsimp only; rw [hx2]
      have HR3 : Hid (w2.heap[w.heap.size]? = some (obV 0 false 0 ⟨#[]⟩ none 0 0 none 0 0)) := (hg2.block _ (Array.getElem?_eq_some_iff.1 HR2.out).1 (fun e => by injection e with e; have := HGL.out; omega)).trans HR2.out
      have HG3 := Lib.hid (grw_gb HG2.out hg2)
      obtain ⟨W2, hW2, hk2, hb2⟩ := one_v6 w2 0 false 0 ⟨#[]⟩ none 0 0 none 0 0
      have HW2 := Lib.hid hW2
      have HR4 : Hid (W2.heap[w.heap.size]? = some (obV 0 false 0 ⟨#[]⟩ none 0 0 none 0 0)) := (hb2.block _ (Array.getElem?_eq_some_iff.1 HR3.out).1).trans HR3.out
      have HG4 := Lib.hid (grw_be HG3.out hb2)
      have nF := neF (r.1 : Int) r.2
      clear hg2 hW2 hk2 hb2 hx2 nN
      go_upto_region 5 with (fail)
      rw [← HW2.out]
      obtain ⟨u0, u1, u2, u3, u4, u5⟩ := cells6 HR4.out
      have z0 := frz HR4.out 0
      have z1 := frz HR4.out 1
      have z2 := frz HR4.out 2
      have z3 := frz HR4.out 3
      have z4 := frz HR4.out 4
      have z5 := frz HR4.out 5
      have HH := Lib.hid (set6 HR4.out (.int .i64 0) (.bool false) (.int .i64 0) (.string ⟨#[]⟩) (.slice none 0 0) (.slice none 0 0))
      have HZ := Lib.hid (gr_set6 W2 w.heap.size (.int .i64 0) (.bool false) (.int .i64 0) (.string ⟨#[]⟩) (.slice none 0 0) (.slice none 0 0))
      go_wp2_with fail
      obtain ⟨d0, d1, d2, d3, d4, d5⟩ := cells6 HH.out
      clear u0 u1 u2 u3 u4 u5 z0 z1 z2 z3 z4 z5
      (with_reducible refine bodyPost_ret (v := .tuple #[zVl, fauV r]) (by simp [results, Tryz.results9, go_sem, d0, d1, d2, d3, d4, d5]) rfl ?_)
      exact wh_er HX.out HG4.out HZ.out
    | ok q =>
      rw [hx2] at hq
      obtain ⟨hg2, xk, xb, xn, xt, xo, xl, xq, yo, yl, yq, rfl, hrep, hrd2⟩ := hq
      have hqb := (read_ok l _).1 room t q HT.out.2.1 hx2
      have HR3 : Hid (w2.heap[w.heap.size]? = some (obV 0 false 0 ⟨#[]⟩ none 0 0 none 0 0)) := (hg2.block _ (Array.getElem?_eq_some_iff.1 HR2.out).1 (fun e => by injection e with e; have := HGL.out; omega)).trans HR2.out
      have hlt1 : w1.heap.size < W1.heap.size := (Array.getElem?_eq_some_iff.1 HK1.out).1
      have HK3 : Hid (w2.heap[w1.heap.size]? = some (obT (t.k : Int) (t.a : Int) (t.b : Int) (mkS t.t) t.n)) := (hg2.block _ hlt1 (fun e => by injection e with e; have := HGL.out; have := HLT.out; omega)).trans HK1.out
      have HG3 := Lib.hid (grw_gb HG2.out hg2)
      have hE2 : Env w2 := env_gb HE1.out hg2 hgN (by have := HGL.out; have := HLT.out; omega)
      obtain ⟨W2, hW2, hk2, hb2⟩ := one_v6 w2 xk xb xn xt xo xl xq yo yl yq
      have HW2 := Lib.hid hW2
      have HV2 := Lib.hid hk2
      have HR4 : Hid (W2.heap[w.heap.size]? = some (obV 0 false 0 ⟨#[]⟩ none 0 0 none 0 0)) := (hb2.block _ (Array.getElem?_eq_some_iff.1 HR3.out).1).trans HR3.out
      have HK4 : Hid (W2.heap[w1.heap.size]? = some (obT (t.k : Int) (t.a : Int) (t.b : Int) (mkS t.t) t.n)) := (hb2.block _ (Array.getElem?_eq_some_iff.1 HK3.out).1).trans HK3.out
      have HG4 := Lib.hid (grw_be HG3.out hb2)
      have HREP : Hid (Rep (fun k => W1.heap.size ≤ k) W2 q.1 (c6 xk xb xn xt xo xl xq yo yl yq)) := Rep.keep ⟨hb2.size, fun k hk hl => hb2.block k hl⟩ _ hrep
      have HN2 := Lib.hid (next_q g q.2 s W2 (hrd2.go hb2) (hE2.go hb2) HS.out.1 (by rw [HS.out.2.2]; exact hqb.2.1))
      rw [← HLL.out] at HN2
      have HX2 := Lib.hid hx2
      have HL1 := Lib.hid hlt1
      have HL2 : Hid (W1.heap.size ≤ w2.heap.size ∧ w2.heap.size < W2.heap.size) := ⟨hg2.size, (Array.getElem?_eq_some_iff.1 hk2).1⟩
      clear hg2 hrep hrd2 hqb hE2 hW2 hk2 hb2 hx2 hlt1
      go_upto_region 5 with (fail)
      rw [← HW2.out]
      go_wp2_with fail
      (with_reducible refine HN2.out.mono ?_)
      intro e w3 hq
      clear HN2
      have hg3 : W2.grownBy w3 (some g) := hq.1
      have hgg := HGL.out
      have hgt := HLT.out
      have hl1 := HL1.out
      have hl2 := HL2.out
      have HR5 : Hid (w3.heap[w.heap.size]? = some (obV 0 false 0 ⟨#[]⟩ none 0 0 none 0 0)) := (hg3.block _ (by omega) (fun e => by injection e with e; omega)).trans HR4.out
      have HK5 : Hid (w3.heap[w1.heap.size]? = some (obT (t.k : Int) (t.a : Int) (t.b : Int) (mkS t.t) t.n)) := (hg3.block _ (by omega) (fun e => by injection e with e; omega)).trans HK4.out
      have HV3 : Hid (w3.heap[w2.heap.size]? = some (obV xk xb xn xt xo xl xq yo yl yq)) := (hg3.block _ (by omega) (fun e => by injection e with e; omega)).trans HV2.out
      have HG5 := Lib.hid (grw_gb HG4.out hg3)
      have HREP3 : Hid (Rep (fun k => W1.heap.size ≤ k) w3 q.1 (c6 xk xb xn xt xo xl xq yo yl yq)) := Rep.keep ⟨hg3.size, fun k hk hl => hg3.block k hl (fun e => by injection e with e; omega)⟩ _ HREP.out
      obtain ⟨a0, a1, a2, a3, a4⟩ := cells5 HK5.out
      have f0 := frz HK5.out 0
      have f1 := frz HK5.out 1
      have f2 := frz HK5.out 2
      have f3 := frz HK5.out 3
      have f4 := frz HK5.out 4
      clear hg3 hgg hgt hl1 hl2
      cases hx3 : nx l q.2 with
      | error r =>
        rw [hx3] at hq
        obtain ⟨-, rfl, -⟩ := hq
        obtain ⟨w4, hw4⟩ : ∃ w4, w4 = (((((w3.setCell ⟨w1.heap.size, 0, none⟩ (.int .i64 0)).setCell ⟨w1.heap.size, 1, none⟩ (.int .i64 0)).setCell ⟨w1.heap.size, 2, none⟩ (.int .i64 0)).setCell ⟨w1.heap.size, 3, none⟩ (.string ⟨#[]⟩)).setCell ⟨w1.heap.size, 4, none⟩ (.int .i64 0)) := ⟨_, rfl⟩
        have hG4 : Grw (fun j => j = w1.heap.size) w3 w4 := by rw [hw4]; exact gr_set5 w3 w1.heap.size _ _ _ _ _
        have HK6 : Hid (w4.heap[w1.heap.size]? = some (obT 0 0 0 ⟨#[]⟩ 0)) := by rw [hw4]; exact Lib.hid (set5 HK5.out _ _ _ _ _)
        have HR6 : Hid (w4.heap[w.heap.size]? = some (obV 0 false 0 ⟨#[]⟩ none 0 0 none 0 0)) := (hG4.block (Array.getElem?_eq_some_iff.1 HR5.out).1 (by have := HLT.out; omega)).trans HR5.out
        have HV4 : Hid (w4.heap[w2.heap.size]? = some (obV xk xb xn xt xo xl xq yo yl yq)) := (hG4.block (Array.getElem?_eq_some_iff.1 HV3.out).1 (by have := HL2.out; have := HL1.out; omega)).trans HV3.out
        have HG6 : Hid (Grw (GX g w.heap.size) w w4) := HG5.out.trans hG4 (fun j _ (e : j = w1.heap.size) => Or.inr (show w.heap.size ≤ j by have := HLT.out; omega))
        have HREP4 : Hid (Rep (fun k => W1.heap.size ≤ k) w4 q.1 (c6 xk xb xn xt xo xl xq yo yl yq)) := Rep.keep ⟨hG4.size, fun k hk hl => hG4.block hl (by have := HL1.out; omega)⟩ _ HREP3.out
        go_upto_region 8 with (fail)
        rw [← hw4]
        clear hw4 hG4 a0 a1 a2 a3 a4 f0 f1 f2 f3 f4
        by_cases h6 : r.2 = 6
        · have HX : Hid (whP l room = .ok q.1) := by show _ = _; unfold whP; rw [HX1.out]; dsimp only; rw [HX2.out]; dsimp only; rw [hx3]; dsimp only; rw [if_pos h6]
          have HIS := Lib.hid (is_flt (r.1 : Int) r.2 true (by simp [h6]) w4)
          clear hx3 h6 nN
          go_wp2_with fail
          (with_reducible refine HIS.out.mono ?_)
          rintro e w5 ⟨rfl, hb5⟩
          have HR7 : Hid (w5.heap[w.heap.size]? = some (obV 0 false 0 ⟨#[]⟩ none 0 0 none 0 0)) := (hb5.block _ (Array.getElem?_eq_some_iff.1 HR6.out).1).trans HR6.out
          have HV5 : Hid (w5.heap[w2.heap.size]? = some (obV xk xb xn xt xo xl xq yo yl yq)) := (hb5.block _ (Array.getElem?_eq_some_iff.1 HV4.out).1).trans HV4.out
          have HG7 := Lib.hid (grw_be HG6.out hb5)
          have HREP5 : Hid (Rep (fun k => W1.heap.size ≤ k) w5 q.1 (c6 xk xb xn xt xo xl xq yo yl yq)) := Rep.keep ⟨hb5.size, fun k hk hl => hb5.block k hl⟩ _ HREP4.out
          have hne : w2.heap.size ≠ w.heap.size := by have := HL2.out; have := HL1.out; have := HLT.out; omega
          obtain ⟨v0, v1, v2, v3, v4, v5⟩ := cells6 HV5.out
          clear hb5
          obtain ⟨u0, u1, u2, u3, u4, u5⟩ := cells6 HR7.out
          have z0 := frz HR7.out 0
          have z1 := frz HR7.out 1
          have z2 := frz HR7.out 2
          have z3 := frz HR7.out 3
          have z4 := frz HR7.out 4
          have z5 := frz HR7.out 5
          have HH := Lib.hid (set6 HR7.out (.int .i64 xk) (.bool xb) (.int .i64 xn) (.string xt) (.slice xo xl xq) (.slice yo yl yq))
          have HZ := Lib.hid (gr_set6 w5 w.heap.size (.int .i64 xk) (.bool xb) (.int .i64 xn) (.string xt) (.slice xo xl xq) (.slice yo yl yq))
          go_wp2_with fail
          obtain ⟨d0, d1, d2, d3, d4, d5⟩ := cells6 HH.out
          clear u0 u1 u2 u3 u4 u5 z0 z1 z2 z3 z4 z5
          (with_reducible refine bodyPost_ret (v := .tuple #[.agg #[.int .i64 xk, .bool xb, .int .i64 xn, .string xt, .slice xo xl xq, .slice yo yl yq], .nilIface]) (by simp [results, Tryz.results9, go_sem, d0, d1, d2, d3, d4, d5]) rfl ?_)
          exact wh_ok HX.out HG7.out HZ.out (by have := HL1.out; have := HLT.out; omega) HREP5.out
        · have HX : Hid (whP l room = .error r) := by show _ = _; unfold whP; rw [HX1.out]; dsimp only; rw [HX2.out]; dsimp only; rw [hx3]; dsimp only; rw [if_neg h6]
          have HIS := Lib.hid (is_flt (r.1 : Int) r.2 false (by simpa using h6) w4)
          have nF := neF (r.1 : Int) r.2
          clear hx3 h6 nN
          go_wp2_with fail
          (with_reducible refine HIS.out.mono ?_)
          rintro e w5 ⟨rfl, hb5⟩
          have HR7 : Hid (w5.heap[w.heap.size]? = some (obV 0 false 0 ⟨#[]⟩ none 0 0 none 0 0)) := (hb5.block _ (Array.getElem?_eq_some_iff.1 HR6.out).1).trans HR6.out
          have HG7 := Lib.hid (grw_be HG6.out hb5)
          clear hb5
          obtain ⟨u0, u1, u2, u3, u4, u5⟩ := cells6 HR7.out
          have z0 := frz HR7.out 0
          have z1 := frz HR7.out 1
          have z2 := frz HR7.out 2
          have z3 := frz HR7.out 3
          have z4 := frz HR7.out 4
          have z5 := frz HR7.out 5
          have HH := Lib.hid (set6 HR7.out (.int .i64 0) (.bool false) (.int .i64 0) (.string ⟨#[]⟩) (.slice none 0 0) (.slice none 0 0))
          have HZ := Lib.hid (gr_set6 w5 w.heap.size (.int .i64 0) (.bool false) (.int .i64 0) (.string ⟨#[]⟩) (.slice none 0 0) (.slice none 0 0))
          go_wp2_with fail
          obtain ⟨d0, d1, d2, d3, d4, d5⟩ := cells6 HH.out
          clear u0 u1 u2 u3 u4 u5 z0 z1 z2 z3 z4 z5
          (with_reducible refine bodyPost_ret (v := .tuple #[zVl, fauV r]) (by simp [results, Tryz.results9, go_sem, d0, d1, d2, d3, d4, d5]) rfl ?_)
          exact wh_er HX.out HG7.out HZ.out
      | ok u =>
        rw [hx3] at hq
        obtain ⟨-, rfl, -⟩ := hq
        obtain ⟨w4, hw4⟩ : ∃ w4, w4 = (((((w3.setCell ⟨w1.heap.size, 0, none⟩ (.int .i64 (u.k : Int))).setCell ⟨w1.heap.size, 1, none⟩ (.int .i64 (u.a : Int))).setCell ⟨w1.heap.size, 2, none⟩ (.int .i64 (u.b : Int))).setCell ⟨w1.heap.size, 3, none⟩ (.string (mkS u.t))).setCell ⟨w1.heap.size, 4, none⟩ (.int .i64 u.n)) := ⟨_, rfl⟩
        have hG4 : Grw (fun j => j = w1.heap.size) w3 w4 := by rw [hw4]; exact gr_set5 w3 w1.heap.size _ _ _ _ _
        have HK6 : Hid (w4.heap[w1.heap.size]? = some (obT (u.k : Int) (u.a : Int) (u.b : Int) (mkS u.t) u.n)) := by rw [hw4]; exact Lib.hid (set5 HK5.out _ _ _ _ _)
        have HR6 : Hid (w4.heap[w.heap.size]? = some (obV 0 false 0 ⟨#[]⟩ none 0 0 none 0 0)) := (hG4.block (Array.getElem?_eq_some_iff.1 HR5.out).1 (by have := HLT.out; omega)).trans HR5.out
        have HV4 : Hid (w4.heap[w2.heap.size]? = some (obV xk xb xn xt xo xl xq yo yl yq)) := (hG4.block (Array.getElem?_eq_some_iff.1 HV3.out).1 (by have := HL2.out; have := HL1.out; omega)).trans HV3.out
        have HG6 : Hid (Grw (GX g w.heap.size) w w4) := HG5.out.trans hG4 (fun j _ (e : j = w1.heap.size) => Or.inr (show w.heap.size ≤ j by have := HLT.out; omega))
        have HREP4 : Hid (Rep (fun k => W1.heap.size ≤ k) w4 q.1 (c6 xk xb xn xt xo xl xq yo yl yq)) := Rep.keep ⟨hG4.size, fun k hk hl => hG4.block hl (by have := HL1.out; omega)⟩ _ HREP3.out
        go_upto_region 8 with (fail)
        rw [← hw4]
        clear hw4 hG4 a0 a1 a2 a3 a4 f0 f1 f2 f3 f4
        have HX : Hid (whP l room = .error (u.a, 3)) := by show _ = _; unfold whP; rw [HX1.out]; dsimp only; rw [HX2.out]; dsimp only; rw [hx3]
        have HIS := Lib.hid (is_nil w4)
        have HUN := Lib.hid (unfit_c (u.k : Int) (u.a : Int) (u.b : Int) u.n (mkS u.t) w4)
        obtain ⟨a0, a1, a2, a3, a4⟩ := cells5 HK6.out
        clear hx3
        go_wp2_with fail
        (with_reducible refine HIS.out.mono ?_)
        rintro e w5 ⟨rfl, rfl⟩
        go_wp2_with fail
        (with_reducible refine HUN.out.mono ?_)
        rintro e w5 ⟨rfl, hb5⟩
        have HR7 : Hid (w5.heap[w.heap.size]? = some (obV 0 false 0 ⟨#[]⟩ none 0 0 none 0 0)) := (hb5.block _ (Array.getElem?_eq_some_iff.1 HR6.out).1).trans HR6.out
        have HG7 := Lib.hid (grw_be HG6.out hb5)
        clear hb5 a0 a1 a2 a3 a4
        obtain ⟨u0, u1, u2, u3, u4, u5⟩ := cells6 HR7.out
        have z0 := frz HR7.out 0
        have z1 := frz HR7.out 1
        have z2 := frz HR7.out 2
        have z3 := frz HR7.out 3
        have z4 := frz HR7.out 4
        have z5 := frz HR7.out 5
        have HH := Lib.hid (set6 HR7.out (.int .i64 0) (.bool false) (.int .i64 0) (.string ⟨#[]⟩) (.slice none 0 0) (.slice none 0 0))
        have HZ := Lib.hid (gr_set6 w5 w.heap.size (.int .i64 0) (.bool false) (.int .i64 0) (.string ⟨#[]⟩) (.slice none 0 0) (.slice none 0 0))
        go_wp2_with fail
        obtain ⟨d0, d1, d2, d3, d4, d5⟩ := cells6 HH.out
        clear u0 u1 u2 u3 u4 u5 z0 z1 z2 z3 z4 z5
        (with_reducible refine bodyPost_ret (v := .tuple #[zVl, fauV (u.a, 3)]) (by simp [results, Tryz.results9, go_sem, d0, d1, d2, d3, d4, d5]) rfl ?_)
        exact wh_er HX.out HG7.out HZ.out
end Go.Proofs.YtpgllcdcpdeicaaGreatDoor.Jv
namespace Go.Proofs.YtpgllcdcpdeicaaGreatDoor.Jv
open Jt
open Go.RowKit Go.ChangeMaps Go.MapKept Go.WideMaps
set_option linter.unusedSimpArgs false
set_option linter.unusedVariables false

/-- what Parse answers: the value's cells, the place, the error -/
def PaQ (x : JV × Nat × Int) (w : World) (e : Ending) (w' : World) : Prop := ∃ xk xb xn xt xo xl xq yo yl yq, e = .returned (.tuple #[.agg #[.int .i64 xk, .bool xb, .int .i64 xn, .string xt, .slice xo xl xq, .slice yo yl yq], .int .i64 (x.2.1 : Int), .int .i64 x.2.2]) ∧ Rep (fun k => w.heap.size ≤ k) w' x.1 (c6 xk xb xn xt xo xl xq yo yl yq) ∧ Below w.heap.size w w'
theorem env_big {w : World} (h : Env w) : 4 ≤ w.heap.size := by have := h.1.two; omega
abbrev obF (a e : Int) : Obj := .cells #[.int .i64 a, .int .i64 e] 45
theorem newF (w : World) (a e : Int) : ∃ W, W = w.alloc (obF a e) ∧ W.heap[w.heap.size]? = some (obF a e) ∧ Below w.heap.size w W := ⟨_, rfl, heap_alloc_new w _, (Below.refl _ _).alloc (Nat.le_refl _) _⟩
theorem newR (w : World) (s : ByteArray) : ∃ W, W = w.alloc (.cells #[.string s, .int .i64 0] 39) ∧ Rd w.heap.size s 0 W ∧ Below w.heap.size w W := ⟨_, rfl, heap_alloc_new w _, (Below.refl _ _).alloc (Nat.le_refl _) _⟩
theorem set2f {w : World} {g : Nat} {a b : Value} {t : TypeId} (h : w.heap[g]? = some (.cells #[a, b] t (0, 0))) (x y : Value) : ((w.setCell ⟨g, 0, none⟩ x).setCell ⟨g, 1, none⟩ y).heap[g]? = some (.cells #[x, y] t (0, 0)) := by
  simpa using blk_set (blk_set h 0 x) 1 y
theorem cells2f {w : World} {g : Nat} {a b : Value} {t : TypeId} (h : w.heap[g]? = some (.cells #[a, b] t (0, 0))) : w.cell? ⟨g, 0, none⟩ = some a ∧ w.cell? ⟨g, 1, none⟩ = some b := ⟨cell_of_row _ _ 0 _ _ _ h, cell_of_row _ _ 1 _ _ _ h⟩
theorem gr_set2 (w : World) (r : Nat) (x y : Value) : Grw (fun j => j = r) w ((w.setCell ⟨r, 0, none⟩ x).setCell ⟨r, 1, none⟩ y) := (gr_one w r 0 x).trans (gr_one _ r 1 y) (fun _ _ h => h)
/-- all that lies above w's heap may change -/
abbrev Up (w V : World) : Prop := Grw (fun j => w.heap.size ≤ j) w V
theorem Up.be {w V V' : World} (h : Up w V) (k : Below V.heap.size V V') : Up w V' := Grw.trans h (Grw.of_below (X := fun j => V.heap.size ≤ j) k (fun j h _ => h)) (fun j hj (e : V.heap.size ≤ j) => show w.heap.size ≤ j by have := Grw.size h; omega)
theorem Up.one {w V V' : World} {r : Nat} (h : Up w V) (k : Grw (fun j => j = r) V V') (hr : w.heap.size ≤ r) : Up w V' := Grw.trans h k (fun j hj (e : j = r) => show w.heap.size ≤ j by omega)
theorem Up.below {w V : World} (h : Up w V) : Below w.heap.size w V := ⟨h.1, h.2.1, h.2.2.1, h.2.2.2.1, fun k hk => h.block hk (by omega)⟩
set_option maxRecDepth 100000 in
set_option maxHeartbeats 8000000 in
theorem Parse_c (s : ByteArray) (d : Int) (w : World) (hE : Env w) (hs : s.size ≤ 1000) :
    Calls Tryz.prog 4 #[.string s, .int .i64 d] w (PaQ (parseP s.data.toList d) w) := by
  have hl := size_l s
  obtain ⟨W0, hW0, hk0, hb0⟩ := one_v w
  obtain ⟨W1, hW1, hk1, hb1⟩ := newR W0 s
  have hlt0 : w.heap.size < W0.heap.size := (Array.getElem?_eq_some_iff.1 hk0).1
  have hlt1 : W0.heap.size < W1.heap.size := hk1.lt
  have hE1 : Env W1 := (hE.go hb0).go hb1
  have hbg := env_big hE
  have HE1 := Lib.hid hE1
  have HR1 : Hid (W1.heap[w.heap.size]? = some (obV 0 false 0 ⟨#[]⟩ none 0 0 none 0 0)) := (hb1.block _ hlt0).trans hk0
  have HWH := Lib.hid (whole_q W0.heap.size s (min d 16) W1 hk1 hE1 (by omega) hs (by omega))
  have HG1 : Hid (Up w W1) := Up.be (Grw.of_below hb0 (fun k h _ => h)) hb1
  have HW0 := Lib.hid hW0
  have HW1 := Lib.hid hW1
  have HL : Hid (w.heap.size < W0.heap.size ∧ W0.heap.size < W1.heap.size ∧ 4 ≤ w.heap.size ∧ s.size = s.data.toList.length) := ⟨hlt0, hlt1, hbg, hl⟩
  obtain ⟨l, hll⟩ : ∃ l, l = s.data.toList := ⟨_, rfl⟩
  rw [← hll] at HWH HL ⊢
  clear hW0 hk0 hb0 hW1 hk1 hb1 hlt0 hlt1 hE1 hbg hE hs hl hll
  go_enter Tryz.func4, Tryz.ntmps4
  go_upto_region 1 with (fail)
  rw [← HW0.out]
  go_upto_region 2 with (fail)
  rw [← HW1.out]
  go_wp2_with fail
  (with_reducible refine HWH.out.mono ?_)
  intro e w2 hq
  clear HWH
  have hg2 : W1.grownBy w2 (some W0.heap.size) := hq.1
  have HR2 : Hid (w2.heap[w.heap.size]? = some (obV 0 false 0 ⟨#[]⟩ none 0 0 none 0 0)) := (hg2.block _ (by have := HL.out; omega) (fun e => by injection e with e; have := HL.out; omega)).trans HR1.out
  have HG2 : Hid (Up w w2) := Up.one HG1.out (Grw.of_gb hg2 (fun j e => by injection e with e; exact e.symm)) (by have := HL.out; omega)
  have HE2 : Hid (Env w2) := env_gb HE1.out hg2 (by have := HL.out; omega) HL.out.2.1
  have HZ2 : Hid (W1.heap.size ≤ w2.heap.size) := hg2.size
  clear hg2
  cases hx : whole l (min d 16) with
  | ok v =>
    rw [hx] at hq
    obtain ⟨-, xk, xb, xn, xt, xo, xl, xq, yo, yl, yq, rfl, hrep⟩ := hq
    have HX : Hid (parseP l d = (v, l.length, 0)) := by show _ = _; unfold parseP; rw [hx]
    obtain ⟨W3, hW3, hk3, hb3⟩ := one_v6 w2 xk xb xn xt xo xl xq yo yl yq
    have HW3 := Lib.hid hW3
    have HR3 : Hid (W3.heap[w.heap.size]? = some (obV 0 false 0 ⟨#[]⟩ none 0 0 none 0 0)) := (hb3.block _ (Array.getElem?_eq_some_iff.1 HR2.out).1).trans HR2.out
    have HG3 : Hid (Up w W3) := Up.be HG2.out hb3
    have hrep3 : Rep (fun k => W1.heap.size ≤ k) W3 v (c6 xk xb xn xt xo xl xq yo yl yq) := Rep.keep ⟨hb3.size, fun k hk hl => hb3.block k hl⟩ _ hrep
    obtain ⟨W4, hW4, hk4, hb4⟩ := newF W3 0 0
    have HW4 := Lib.hid hW4
    have HR4 : Hid (W4.heap[w.heap.size]? = some (obV 0 false 0 ⟨#[]⟩ none 0 0 none 0 0)) := (hb4.block _ (Array.getElem?_eq_some_iff.1 HR3.out).1).trans HR3.out
    have HG4 : Hid (Up w W4) := Up.be HG3.out hb4
    have HREP : Hid (Rep (fun k => W1.heap.size ≤ k) W4 v (c6 xk xb xn xt xo xl xq yo yl yq)) := Rep.keep ⟨hb4.size, fun k hk hl => hb4.block k hl⟩ _ hrep3
    have HV4 : Hid (W4.heap[w2.heap.size]? = some (obV xk xb xn xt xo xl xq yo yl yq)) := (hb4.block _ (Array.getElem?_eq_some_iff.1 hk3).1).trans hk3
    have hne : w2.heap.size ≠ w.heap.size := by have := HL.out; have := HZ2.out; omega
    obtain ⟨v0, v1, v2, v3, v4, v5⟩ := cells6 HV4.out
    clear hrep hrep3 hW3 hk3 hb3 hW4 hk4 hb4 hx
    go_upto_region 3 with (fail)
    rw [← HW3.out]
    go_upto_region 4 with (fail)
    rw [← HW4.out]
    go_wp2_with fail
    (with_reducible refine (as_nil _ W4).mono ?_)
    rintro e w5 ⟨rfl, rfl⟩
    obtain ⟨u0, u1, u2, u3, u4, u5⟩ := cells6 HR4.out
    have z0 := frz HR4.out 0
    have z1 := frz HR4.out 1
    have z2 := frz HR4.out 2
    have z3 := frz HR4.out 3
    have z4 := frz HR4.out 4
    have z5 := frz HR4.out 5
    have HH := Lib.hid (set6 HR4.out (.int .i64 xk) (.bool xb) (.int .i64 xn) (.string xt) (.slice xo xl xq) (.slice yo yl yq))
    have HZ := Lib.hid (gr_set6 W4 w.heap.size (.int .i64 xk) (.bool xb) (.int .i64 xn) (.string xt) (.slice xo xl xq) (.slice yo yl yq))
    go_wp2_with fail
    obtain ⟨d0, d1, d2, d3, d4, d5⟩ := cells6 HH.out
    clear u0 u1 u2 u3 u4 u5 z0 z1 z2 z3 z4 z5
    (with_reducible refine bodyPost_ret (v := .tuple #[.agg #[.int .i64 xk, .bool xb, .int .i64 xn, .string xt, .slice xo xl xq, .slice yo yl yq], .int .i64 (s.size : Int), .int .i64 0]) (by simp [results, Tryz.results4, go_sem, d0, d1, d2, d3, d4, d5]) rfl ?_)
    have hgz := Up.one HG4.out HZ.out (Nat.le_refl _)
    refine ⟨xk, xb, xn, xt, xo, xl, xq, yo, yl, yq, ?_, ?_, hgz.below⟩
    · rw [HX.out, HL.out.2.2.2]
    · rw [HX.out]
      have hl4 := HL.out
      exact Rep.mono (fun k hk _ => by omega) _ (Rep.keep ⟨HZ.out.size, fun k hk hl => HZ.out.block hl (by omega)⟩ _ HREP.out)
  | error r =>
    rw [hx] at hq
    obtain ⟨-, rfl⟩ := hq
    obtain ⟨W3, hW3, hk3, hb3⟩ := one_v6 w2 0 false 0 ⟨#[]⟩ none 0 0 none 0 0
    have HW3 := Lib.hid hW3
    have HR3 : Hid (W3.heap[w.heap.size]? = some (obV 0 false 0 ⟨#[]⟩ none 0 0 none 0 0)) := (hb3.block _ (Array.getElem?_eq_some_iff.1 HR2.out).1).trans HR2.out
    have HG3 : Hid (Up w W3) := Up.be HG2.out hb3
    obtain ⟨W4, hW4, hk4, hb4⟩ := newF W3 0 0
    have HW4 := Lib.hid hW4
    have HR4 : Hid (W4.heap[w.heap.size]? = some (obV 0 false 0 ⟨#[]⟩ none 0 0 none 0 0)) := (hb4.block _ (Array.getElem?_eq_some_iff.1 HR3.out).1).trans HR3.out
    have HG4 : Hid (Up w W4) := Up.be HG3.out hb4
    obtain ⟨y0, y1⟩ := cells2f hk4
    have HLT : Hid (w.heap.size < W3.heap.size) := (Array.getElem?_eq_some_iff.1 HR3.out).1
    have HF4 : Hid (W4.heap[W3.heap.size]? = some (obF 0 0)) := hk4
    have HAS := Lib.hid (as_hit 0 0 W3.heap.size (.int .i64 (r.1 : Int)) (.int .i64 r.2) _ _ W4 rfl rfl ((HE2.out.go hb3).go hb4).2 y0 y1 (frz hk4 0) (frz hk4 1))
    clear hW3 hk3 hb3 hW4 hk4 hb4 y0 y1
    go_upto_region 3 with (fail)
    rw [← HW3.out]
    go_upto_region 4 with (fail)
    rw [← HW4.out]
    go_wp2_with fail
    (with_reducible refine HAS.out.mono ?_)
    rintro e w5 ⟨rfl, W5, hb5, hw5⟩
    have hk5 : W5.heap[W3.heap.size]? = some (obF 0 0) := (hb5.block _ (Array.getElem?_eq_some_iff.1 HF4.out).1).trans HF4.out
    have HF5 : Hid (w5.heap[W3.heap.size]? = some (obF (r.1 : Int) r.2)) := by rw [hw5]; exact Lib.hid (set2f hk5 _ _)
    have hG5 : Grw (fun j => j = W3.heap.size) W5 w5 := by rw [hw5]; exact gr_set2 W5 _ _ _
    have HR5 : Hid (w5.heap[w.heap.size]? = some (obV 0 false 0 ⟨#[]⟩ none 0 0 none 0 0)) := (hG5.block (Nat.lt_of_lt_of_le (Array.getElem?_eq_some_iff.1 HR4.out).1 hb5.size) (by have := HLT.out; omega)).trans ((hb5.block _ (Array.getElem?_eq_some_iff.1 HR4.out).1).trans HR4.out)
    have HG5 : Hid (Up w w5) := Up.one (Up.be HG4.out hb5) hG5 (by have := HLT.out; omega)
    clear hb5 hw5 hk5 hG5 HAS
    by_cases h6 : r.2 = 6
    · have HX : Hid (parseP l d = (zV, r.1, 3)) := by show _ = _; unfold parseP; rw [hx]; dsimp only; rw [if_pos h6]
      have HIS := Lib.hid (is_flt (r.1 : Int) r.2 true (by simp [h6]) w5)
      clear hx h6
      go_wp2_with fail
      (with_reducible refine HIS.out.mono ?_)
      rintro e w6 ⟨rfl, hb6⟩
      have HF6 : Hid (w6.heap[W3.heap.size]? = some (obF (r.1 : Int) r.2)) := (hb6.block _ (Array.getElem?_eq_some_iff.1 HF5.out).1).trans HF5.out
      have HR6 : Hid (w6.heap[w.heap.size]? = some (obV 0 false 0 ⟨#[]⟩ none 0 0 none 0 0)) := (hb6.block _ (Array.getElem?_eq_some_iff.1 HR5.out).1).trans HR5.out
      have HG6' : Hid (Up w w6) := Up.be HG5.out hb6
      clear hb6
      have q1 := (cells2f HF6.out).2
      have q2 := frz HF6.out 1
      go_upto_region 8 with (fail)
      clear q1 q2
      obtain ⟨w7, hw7⟩ : ∃ w7, w7 = w6.setCell ⟨W3.heap.size, 1, none⟩ (.int .i64 3) := ⟨_, rfl⟩
      have HF7 : Hid (w7.heap[W3.heap.size]? = some (obF (r.1 : Int) 3)) := by rw [hw7]; have := blk_set HF6.out 1 (.int .i64 3); simpa using Lib.hid this
      have hG7 : Grw (fun j => j = W3.heap.size) w6 w7 := by rw [hw7]; exact gr_one w6 _ _ _
      have HR7 : Hid (w7.heap[w.heap.size]? = some (obV 0 false 0 ⟨#[]⟩ none 0 0 none 0 0)) := (hG7.block (Array.getElem?_eq_some_iff.1 HR6.out).1 (by have := HLT.out; omega)).trans HR6.out
      have HG6 : Hid (Up w w7) := Up.one HG6'.out hG7 (by have := HLT.out; omega)
      rw [← hw7]
      clear hw7 hG7
      obtain ⟨y0, y1⟩ := cells2f HF7.out
      have hne : W3.heap.size ≠ w.heap.size := by have := HLT.out; omega
      obtain ⟨u0, u1, u2, u3, u4, u5⟩ := cells6 HR7.out
      have z0 := frz HR7.out 0
      have z1 := frz HR7.out 1
      have z2 := frz HR7.out 2
      have z3 := frz HR7.out 3
      have z4 := frz HR7.out 4
      have z5 := frz HR7.out 5
      have HH := Lib.hid (set6 HR7.out (.int .i64 0) (.bool false) (.int .i64 0) (.string ⟨#[]⟩) (.slice none 0 0) (.slice none 0 0))
      have HZ := Lib.hid (gr_set6 w7 w.heap.size (.int .i64 0) (.bool false) (.int .i64 0) (.string ⟨#[]⟩) (.slice none 0 0) (.slice none 0 0))
      go_region
      all_goals
        go_wp2_with fail
        obtain ⟨d0, d1, d2, d3, d4, d5⟩ := cells6 HH.out
        clear u0 u1 u2 u3 u4 u5 z0 z1 z2 z3 z4 z5
        (with_reducible refine bodyPost_ret (v := .tuple #[zVl, .int .i64 (r.1 : Int), .int .i64 3]) (by simp [results, Tryz.results4, go_sem, d0, d1, d2, d3, d4, d5]) rfl ?_)
        exact ⟨0, false, 0, ⟨#[]⟩, none, 0, 0, none, 0, 0, by rw [HX.out], by rw [HX.out]; exact rep_leaf _ _ _ _ _ [], (Below.drew ((Up.one HG6.out HZ.out (Nat.le_refl _)).below))⟩
    · have HX : Hid (parseP l d = (zV, r.1, r.2)) := by show _ = _; unfold parseP; rw [hx]; dsimp only; rw [if_neg h6]
      have HIS := Lib.hid (is_flt (r.1 : Int) r.2 false (by simpa using h6) w5)
      clear hx h6
      go_wp2_with fail
      (with_reducible refine HIS.out.mono ?_)
      rintro e w7 ⟨rfl, hb6⟩
      have HF7 : Hid (w7.heap[W3.heap.size]? = some (obF (r.1 : Int) r.2)) := (hb6.block _ (Array.getElem?_eq_some_iff.1 HF5.out).1).trans HF5.out
      have HR7 : Hid (w7.heap[w.heap.size]? = some (obV 0 false 0 ⟨#[]⟩ none 0 0 none 0 0)) := (hb6.block _ (Array.getElem?_eq_some_iff.1 HR5.out).1).trans HR5.out
      have HG6 : Hid (Up w w7) := Up.be HG5.out hb6
      clear hb6
      obtain ⟨y0, y1⟩ := cells2f HF7.out
      have hne : W3.heap.size ≠ w.heap.size := by have := HLT.out; omega
      go_upto_region 8 with (fail)
      obtain ⟨u0, u1, u2, u3, u4, u5⟩ := cells6 HR7.out
      have z0 := frz HR7.out 0
      have z1 := frz HR7.out 1
      have z2 := frz HR7.out 2
      have z3 := frz HR7.out 3
      have z4 := frz HR7.out 4
      have z5 := frz HR7.out 5
      have HH := Lib.hid (set6 HR7.out (.int .i64 0) (.bool false) (.int .i64 0) (.string ⟨#[]⟩) (.slice none 0 0) (.slice none 0 0))
      have HZ := Lib.hid (gr_set6 w7 w.heap.size (.int .i64 0) (.bool false) (.int .i64 0) (.string ⟨#[]⟩) (.slice none 0 0) (.slice none 0 0))
      go_region
      all_goals
        go_wp2_with fail
        obtain ⟨d0, d1, d2, d3, d4, d5⟩ := cells6 HH.out
        clear u0 u1 u2 u3 u4 u5 z0 z1 z2 z3 z4 z5
        (with_reducible refine bodyPost_ret (v := .tuple #[zVl, .int .i64 (r.1 : Int), .int .i64 r.2]) (by simp [results, Tryz.results4, go_sem, d0, d1, d2, d3, d4, d5]) rfl ?_)
        exact ⟨0, false, 0, ⟨#[]⟩, none, 0, 0, none, 0, 0, by rw [HX.out], by rw [HX.out]; exact rep_leaf _ _ _ _ _ [], (Below.drew ((Up.one HG6.out HZ.out (Nat.le_refl _)).below))⟩
end Go.Proofs.YtpgllcdcpdeicaaGreatDoor.Jv
