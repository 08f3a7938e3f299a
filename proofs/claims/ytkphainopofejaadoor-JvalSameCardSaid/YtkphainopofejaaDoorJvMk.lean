/- Contracts of package jval's copies and OfList, of leaves; the law JvalMakes answers yes, where what is laid lies. -/
import Derived.Test.YtkphainopofejaaDoorJvGh
namespace Go.Proofs.YtkphainopofejaaDoor.Jv
open Jt
open Go.RowKit Go.ChangeMaps Go.MapKept Go.WideMaps
set_option linter.unusedSimpArgs false
set_option linter.unusedVariables false

/-- a leaf: its kind, whether, its number, its text -/
abbrev Lf := Int × Bool × Int × ByteArray
def lfC (x : Lf) : List Value := c6 x.1 x.2.1 x.2.2.1 x.2.2.2 none 0 0 none 0 0
def lfsC (l : List Lf) : List Value := l.flatMap lfC
theorem lfsC_len (l : List Lf) : (lfsC l).length = l.length * 6 := by
  induction l with
  | nil => rfl
  | cons x l ih => rw [show lfsC (x :: l) = lfC x ++ lfsC l from rfl, List.length_append, ih]; simp [lfC]; omega
theorem lfsC_at : ∀ (l : List Lf) (i : Nat) (hi : i < l.length) (j : Nat), j < 6 → (lfsC l)[i * 6 + j]? = (lfC l[i])[j]?
  | x :: l, 0, _, j, hj => by
    rw [show lfsC (x :: l) = lfC x ++ lfsC l from rfl, List.getElem?_append_left (by simp [lfC]; omega)]
    simp
  | x :: l, i + 1, hi, j, hj => by
    rw [show lfsC (x :: l) = lfC x ++ lfsC l from rfl, List.getElem?_append_right (by simp [lfC]; omega)]
    have h := lfsC_at l i (by simpa using hi) j hj
    rw [show (i + 1) * 6 + j - (lfC x).length = i * 6 + j by simp [lfC]; omega, h]
    simp
theorem lfsC_one (l : List Lf) : ∀ v ∈ lfsC l, v.oneCell' = true := fun v hv => by
  obtain ⟨x, _, h⟩ := List.mem_flatMap.1 hv
  simp [lfC] at h
  rcases h with rfl | rfl | rfl | rfl | rfl <;> rfl
theorem lfs_at {w : World} {g o : Nat} {l : List Lf} (h : CsAt w g o (lfsC l)) {i : Nat} (hi : i < l.length) : CsAt w g (o + i * 6) (lfC l[i]) := fun j v hv => by
  have hj : j < 6 := by
    rcases Nat.lt_or_ge j 6 with h | h
    · exact h
    · rw [List.getElem?_eq_none (by simpa [lfC] using h)] at hv; cases hv
  rw [Nat.add_assoc]
  exact h _ v (by rw [lfsC_at l i hi j hj]; exact hv)
theorem set_same {ys : List Value} {i : Nat} {v : Value} (h : ys[i]? = some v) : ys.set i v = ys := by
  obtain ⟨hi, he⟩ := List.getElem?_eq_some_iff.1 h
  rw [← he, List.set_getElem_self]
theorem addJ (g o j : Nat) : (⟨g, o, none⟩ : Addr).add j = ⟨g, o + j, none⟩ := by unfold Addr.add; split <;> simp_all
theorem own_cs {w : World} {B : Nat} {g n cap : Nat} {cs : List Value} (h : w.ownsRow B 25 6 (.slice (some ⟨g, 0, none⟩) n cap) n cs) : CsAt w g 0 cs := fun j v hv => by
  have := h.cells (g := g) rfl j v hv
  rwa [addJ] at this
theorem CloneV_nil (w : World) : Calls Tryd.prog 35 #[.slice none 0 0] w fun e w' => e = .returned (.slice none 0 0) ∧ w' = w := by
  have q : ∀ W : World, (binOp .eql 22 (.slice none 0 0) (.slice none 0 0)).run Tryd.prog W = .ok (.bool true) W := fun W => by kernel_rfl
  go_enter Tryd.func35, Tryd.ntmps35
  go_wp2
  go_ret
  exact ⟨rfl, rfl⟩
theorem CloneK_nil (w : World) : Calls Tryd.prog 42 #[.slice none 0 0] w fun e w' => e = .returned (.slice none 0 0) ∧ w' = w := by
  have q : ∀ W : World, (binOp .eql 23 (.slice none 0 0) (.slice none 0 0)).run Tryd.prog W = .ok (.bool true) W := fun W => by kernel_rfl
  go_enter Tryd.func42, Tryd.ntmps42
  go_wp2
  go_ret
  exact ⟨rfl, rfl⟩
set_option maxRecDepth 100000 in
set_option maxHeartbeats 2000000 in
theorem CloneV_c (g off n cap : Nat) (cs : List Value) (w : World) (hl : cs.length = n * 6) (h1 : ∀ v ∈ cs, v.oneCell' = true) (hc : CsAt w g off cs) (hg : g < w.heap.size) (hn : n ≤ 100000) :
    Calls Tryd.prog 35 #[.slice (some ⟨g, off, none⟩) n cap] w fun e w' => ∃ g' cap', e = .returned (.slice (some ⟨g', 0, none⟩) n cap') ∧ w'.ownsRow w.heap.size 25 6 (.slice (some ⟨g', 0, none⟩) n cap') n cs ∧ Below w.heap.size w w' := by
  obtain ⟨i0, hi, hz0, hz1, hz2⟩ := info_parts infoV
  obtain ⟨W0, hW0, hO, hb0⟩ : ∃ W0, W0 = w.alloc (.cells #[] 25) ∧ W0.ownsRow w.heap.size 25 6 (.slice (some ⟨w.heap.size, 0, none⟩) 0 0) 0 [] ∧ Below w.heap.size w W0 := ⟨_, rfl, World.ownsRow_made w #[] 0 (Nat.le_refl _) (by unfold maxLen; omega) rfl, (Below.refl _ _).alloc (Nat.le_refl _) _⟩
  have HC : Hid (∀ j u, cs[j]? = some u → W0.cell? ((⟨g, off, none⟩ : Addr).add j) = some u) := fun j u hu => by
    rw [addJ]
    exact CsAt.keep (P := fun _ => True) (Kep.of hb0) trivial hg hc j u hu
  have HO := Lib.hid hO
  have HB0 := Lib.hid hb0
  have HW0 := Lib.hid hW0
  have D1 := Lib.hid hl
  have D2 := Lib.hid h1
  have D3 : Hid (0 + n ≤ maxLen) := by show _ ≤ _; unfold maxLen; omega
  have D4 : Hid ((0 + n) * 88 ≤ 140737488355328) := by show _ ≤ _; omega
  have D5 : Hid (w.heap.size ≤ W0.heap.size) := hb0.size
  have q : ∀ W : World, (binOp .eql 22 (.slice (some ⟨g, off, none⟩) n cap) (.slice none 0 0)).run Tryd.prog W = .ok (.bool false) W := fun W => Lib.run_eql_slice_nil W _ _ _ _ _ _ _ Tryd.underlying22
  clear hO hb0 hW0 hl h1 hc hg
  go_enter Tryd.func35, Tryd.ntmps35
  go_wp2_with (at_builtin; rw [← HW0.out]; refine wpList_append_own _ rfl _ _ 22 rfl w.heap.size 25 i0 _ 6 88 Tryd.underlying22 hi hz0 hz1 hz2 rfl (by decide) _ _ _ rfl HO.out ⟨g, off, none⟩ n cap cs rfl D1.out HC.out D2.out D3.out D4.out D5.out ?_)
  intro v1 V1 hown1 hgrow1 hiff
  have hB1 : Below w.heap.size w V1 := HB0.out.grown hgrow1 HB0.out.size (fun k hk => (HO.out.lt k hk).1)
  have HB1 := Lib.hid hB1
  have hx : ∃ g' cap', v1 = .slice (some ⟨g', 0, none⟩) n cap' := by
    rcases hown1.2 with ⟨rfl, h0⟩ | ⟨g', cap', cur, rfl, _⟩
    · exact (hiff rfl).elim
    · exact ⟨g', cap', by simp⟩
  obtain ⟨g', cap', rfl⟩ := hx
  have HO1 : Hid (V1.ownsRow w.heap.size 25 6 (.slice (some ⟨g', 0, none⟩) n cap') n cs) := by simpa using Lib.hid hown1
  clear hown1 hgrow1 hB1 hiff
  go_wp2
  go_ret
  exact ⟨g', cap', rfl, HO1.out, HB1.out⟩
theorem copies_nil (w : World) : Calls Tryd.prog 25 #[.slice none 0 0] w fun e w' => e = .returned (.slice none 0 0) ∧ w' = w := by
  go_enter Tryd.func25, Tryd.ntmps25
  go_wp2_with fail
  (with_reducible refine (CloneV_nil w).mono ?_)
  rintro e w1 ⟨rfl, rfl⟩
  go_wp2
  refine wp_loop_rounds 1 ?_
  rw [rounds_succ]
  go_wp2
  go_ret
  exact ⟨rfl, rfl⟩
def LfQ (x : Lf) (w : World) (e : Ending) (w' : World) : Prop := e = .returned (.agg #[.int .i64 x.1, .bool x.2.1, .int .i64 x.2.2.1, .string x.2.2.2, .slice none 0 0, .slice none 0 0]) ∧ Below w.heap.size w w'
theorem set4v {w : World} {g : Nat} {k : Int} {b : Bool} {n : Int} {tx : ByteArray} (h : w.heap[g]? = some (obV k b n tx none 0 0 none 0 0)) (i : Nat) (hi : i = 4 ∨ i = 5) : (w.setCell ⟨g, i, none⟩ (.slice none 0 0)).heap[g]? = some (obV k b n tx none 0 0 none 0 0) := by
  have := blk_set h i (.slice none 0 0)
  rcases hi with rfl | rfl <;> simpa using this
set_option maxRecDepth 100000 in
set_option maxHeartbeats 2000000 in
theorem copied_lf (x : Lf) (w : World) : Calls Tryd.prog 36 #[.agg #[.int .i64 x.1, .bool x.2.1, .int .i64 x.2.2.1, .string x.2.2.2, .slice none 0 0, .slice none 0 0]] w (LfQ x w) := by
  obtain ⟨k, b, n, tx⟩ := x
  obtain ⟨W0, hW0, hk0, hk1, hb0⟩ := two_v w k b n tx none 0 0 none 0 0 0 false 0 ⟨#[]⟩ none 0 0 none 0 0
  have HW0 := Lib.hid hW0
  have HB0 := Lib.hid hb0
  have HA := Lib.hid hk0
  have HR := Lib.hid hk1
  have hlt : w.heap.size + 1 < W0.heap.size := (Array.getElem?_eq_some_iff.1 hk1).1
  obtain ⟨a0, a1, a2, a3, a4, a5⟩ := cells6 hk0
  have f4 := frz hk0 4
  clear hW0 hb0 hk0 hk1
  unfold LfQ
  simp only
  go_enter Tryd.func36, Tryd.ntmps36
  go_upto_region 1 with (fail)
  rw [← HW0.out]
  go_wp2_with fail
  (with_reducible refine (copies_nil W0).mono ?_)
  rintro e w1 ⟨rfl, rfl⟩
  go_upto_region 2 with (fail)
  obtain ⟨w2, hw2⟩ : ∃ w2, w2 = w1.setCell ⟨w.heap.size, 4, none⟩ (.slice none 0 0) := ⟨_, rfl⟩
  have hG2 : Grw (fun j => j = w.heap.size) w1 w2 := by rw [hw2]; exact gr_one w1 _ _ _
  have HA2 : Hid (w2.heap[w.heap.size]? = some (obV k b n tx none 0 0 none 0 0)) := by rw [hw2]; exact Lib.hid (set4v HA.out 4 (.inl rfl))
  have HR2 : Hid (w2.heap[w.heap.size + 1]? = some (obV 0 false 0 ⟨#[]⟩ none 0 0 none 0 0)) := (hG2.block hlt (by omega)).trans HR.out
  have HB2 := Lib.hid (bel_grw HB0.out hG2 (Nat.le_refl _) HB0.out.size)
  have hlt2 : w.heap.size + 1 < w2.heap.size := Nat.lt_of_lt_of_le hlt hG2.size
  rw [← hw2]
  clear hw2 hG2 a0 a1 a2 a3 a4 a5 f4
  obtain ⟨a0, a1, a2, a3, a4, a5⟩ := cells6 HA2.out
  have f5 := frz HA2.out 5
  go_wp2_with fail
  (with_reducible refine (CloneK_nil w2).mono ?_)
  rintro e w3 ⟨rfl, rfl⟩
  go_upto_region 3 with (fail)
  obtain ⟨w4, hw4⟩ : ∃ w4, w4 = w3.setCell ⟨w.heap.size, 5, none⟩ (.slice none 0 0) := ⟨_, rfl⟩
  have hG4 : Grw (fun j => j = w.heap.size) w3 w4 := by rw [hw4]; exact gr_one w3 _ _ _
  have HA4 : Hid (w4.heap[w.heap.size]? = some (obV k b n tx none 0 0 none 0 0)) := by rw [hw4]; exact Lib.hid (set4v HA2.out 5 (.inr rfl))
  have HR4 : Hid (w4.heap[w.heap.size + 1]? = some (obV 0 false 0 ⟨#[]⟩ none 0 0 none 0 0)) := (hG4.block hlt2 (by omega)).trans HR2.out
  have HB4 := Lib.hid (bel_grw HB2.out hG4 (Nat.le_refl _) HB2.out.size)
  rw [← hw4]
  clear hw4 hG4 a0 a1 a2 a3 a4 a5 f5
  obtain ⟨a0, a1, a2, a3, a4, a5⟩ := cells6 HA4.out
  obtain ⟨u0, u1, u2, u3, u4, u5⟩ := cells6 HR4.out
  have z0 := frz HR4.out 0
  have z1 := frz HR4.out 1
  have z2 := frz HR4.out 2
  have z3 := frz HR4.out 3
  have z4 := frz HR4.out 4
  have z5 := frz HR4.out 5
  have HH := Lib.hid (set6 HR4.out (.int .i64 k) (.bool b) (.int .i64 n) (.string tx) (.slice none 0 0) (.slice none 0 0))
  have HZ := Lib.hid (gr_set6 w4 (w.heap.size + 1) (.int .i64 k) (.bool b) (.int .i64 n) (.string tx) (.slice none 0 0) (.slice none 0 0))
  go_wp2_with fail
  obtain ⟨d0, d1, d2, d3, d4, d5⟩ := cells6 HH.out
  clear u0 u1 u2 u3 u4 u5 z0 z1 z2 z3 z4 z5 a0 a1 a2 a3 a4 a5
  (with_reducible refine bodyPost_ret (v := .agg #[.int .i64 k, .bool b, .int .i64 n, .string tx, .slice none 0 0, .slice none 0 0]) (by simp [results, Tryd.results36, go_sem, d0, d1, d2, d3, d4, d5]) rfl ⟨rfl, ?_⟩)
  exact bel_grw HB4.out HZ.out (by omega) HB4.out.size
/-- what lies at the place of a row's item, and that none of it is frozen -/
theorem row_facts {w : World} {B g n cap : Nat} {cs : List Value} (h : w.ownsRow B 25 6 (.slice (some ⟨g, 0, none⟩) n cap) n cs) : g < w.heap.size ∧ B ≤ g ∧ ∀ i, w.frozen? ⟨g, i, none⟩ = false := by
  rcases h.2 with ⟨e, _⟩ | ⟨g', cap', cur, e, e2, e3, _⟩
  · cases e
  · injection e with e _ _
    injection e with e
    injection e with e _ _
    subst e
    exact ⟨(Array.getElem?_eq_some_iff.1 e3).1, e2, fun i => frz e3 i⟩
theorem row_same {w : World} {B g n cap i : Nat} {l : List Lf} (h : w.ownsRow B 25 6 (.slice (some ⟨g, 0, none⟩) n cap) n (lfsC l)) (hi : i < l.length) {k : Int} {b : Bool} {m : Int} {tx : ByteArray} (hx : l[i] = (k, b, m, tx)) :
    ((((((w.setCell ⟨g, i * 6, none⟩ (.int .i64 k)).setCell ⟨g, i * 6 + 1, none⟩ (.bool b)).setCell ⟨g, i * 6 + 2, none⟩ (.int .i64 m)).setCell ⟨g, i * 6 + 3, none⟩ (.string tx)).setCell ⟨g, i * 6 + 4, none⟩ (.slice none 0 0)).setCell ⟨g, i * 6 + 5, none⟩ (.slice none 0 0)).ownsRow B 25 6 (.slice (some ⟨g, 0, none⟩) n cap) n (lfsC l) := by
  have at6 : ∀ j v, j < 6 → (lfC (k, b, m, tx))[j]? = some v → (lfsC l)[i * 6 + j]? = some v := fun j v hj hv => by rw [lfsC_at l i hi j hj, hx]; exact hv
  have h1 := row_set (row_set (row_set (row_set (row_set (row_set (i := i * 6) h (.int .i64 k)) (i := i * 6 + 1) (.bool b)) (i := i * 6 + 2) (.int .i64 m)) (i := i * 6 + 3) (.string tx)) (i := i * 6 + 4) (.slice none 0 0)) (i := i * 6 + 5) (.slice none 0 0)
  rw [set_same (i := i * 6) (at6 0 (.int .i64 k) (by omega) rfl), set_same (at6 1 (.bool b) (by omega) rfl), set_same (at6 2 (.int .i64 m) (by omega) rfl), set_same (at6 3 (.string tx) (by omega) rfl), set_same (at6 4 (.slice none 0 0) (by omega) rfl), set_same (at6 5 (.slice none 0 0) (by omega) rfl)] at h1
  exact h1
def CpQ (l : List Lf) (w : World) (e : Ending) (w' : World) : Prop := ∃ g' cap', e = .returned (.slice (some ⟨g', 0, none⟩) l.length cap') ∧ w'.ownsRow w.heap.size 25 6 (.slice (some ⟨g', 0, none⟩) l.length cap') l.length (lfsC l) ∧ Below w.heap.size w w'
set_option maxRecDepth 100000 in
set_option maxHeartbeats 2000000 in
theorem copies_lf (g off cap : Nat) (l : List Lf) (w : World) (hc : CsAt w g off (lfsC l)) (hg : g < w.heap.size) (hn : l.length ≤ 100000) :
    Calls Tryd.prog 25 #[.slice (some ⟨g, off, none⟩) l.length cap] w (CpQ l w) := by
  have HCL := Lib.hid (CloneV_c g off l.length cap (lfsC l) w (lfsC_len l) (lfsC_one l) hc hg hn)
  obtain ⟨n, hnn⟩ : ∃ n, n = l.length := ⟨_, rfl⟩
  have HN : Hid (l.length = n) := hnn.symm
  unfold CpQ
  rw [← hnn] at HCL hn ⊢
  clear hc hg hnn
  go_enter Tryd.func25, Tryd.ntmps25
  go_wp2_with fail
  (with_reducible refine HCL.out.mono ?_)
  rintro e w1 ⟨g', cap', rfl, ho, hb⟩
  have HO1 := Lib.hid ho
  have HB1 := Lib.hid hb
  clear ho hb HCL
  go_wp2
  go_loopw [9] (fun iv wr => ∃ j : Nat, j ≤ n ∧ iv = .int .i64 j ∧ Hid (wr.ownsRow w.heap.size 25 6 (.slice (some ⟨g', 0, none⟩) n cap') n (lfsC l)) ∧ Hid (Below w.heap.size w wr)) (fun iv _ => n - (intOf iv).toNat)
  case atStart => exact ⟨0, by omega, rfl, HO1, HB1⟩
  case round =>
    clear HO1 HB1
    obtain ⟨j, hj, rfl, HO, HB⟩ := hrel
    by_cases hlt : j < n
    · have HX1 := Lib.hid (show j < l.length by rw [HN.out]; exact hlt)
      obtain ⟨hg1, hbg, hfz⟩ := row_facts HO.out
      have hj0 : (0 : Int) ≤ (j : Int) := by omega
      have hjl : (j : Int) < (n : Int) := by omega
      have hat := lfs_at (own_cs HO.out) HX1.out
      have HS := Lib.hid (fun (V : World) (ho : V.ownsRow w.heap.size 25 6 (.slice (some ⟨g', 0, none⟩) n cap') n (lfsC l)) k b m tx hx => row_same (i := j) ho HX1.out (k := k) (b := b) (m := m) (tx := tx) hx)
      obtain ⟨⟨k, b, m, tx⟩, hx⟩ : ∃ x, l[j]'HX1.out = x := ⟨_, rfl⟩
      rw [hx] at hat
      rw [Nat.zero_add] at hat
      obtain ⟨p0, p1, p2, p3, p4, p5⟩ := cs6 hat
      have HSX := Lib.hid (fun (V : World) (ho : V.ownsRow w.heap.size 25 6 (.slice (some ⟨g', 0, none⟩) n cap') n (lfsC l)) => HS.out V ho k b m tx hx)
      have HPX : Hid (l[j]'HX1.out = (k, b, m, tx)) := hx
      obtain ⟨W1, hW1, hk1, hb1⟩ := one_v6 wr k b m tx none 0 0 none 0 0
      have HW1 := Lib.hid hW1
      have hB1 := btr HB.out hb1
      have HB1 : Hid (Below w.heap.size w W1) := HB.out.trans (hb1.mono HB.out.size)
      have HO1 : Hid (W1.ownsRow w.heap.size 25 6 (.slice (some ⟨g', 0, none⟩) n cap') n (lfsC l)) := row_keep HO.out (Grw.of_below (X := fun j => wr.heap.size ≤ j) hb1 (fun k h _ => h)) (fun j e => by injection e with e; have e : g' = j := e; subst e; exact ⟨hg1, by omega⟩)
      have hn1 : g' ≠ wr.heap.size := by omega
      have HCD := Lib.hid (copied_lf (k, b, m, tx) W1)
      unfold LfQ at HCD
      simp only at HCD
      obtain ⟨m0, m1, m2, m3, m4, m5⟩ := cells6 hk1
      clear hat hx HS hW1 hk1 hb1 hB1 HB HO hfz
      go_upto_region 5 with (fail)
      rw [← HW1.out]
      clear p0 p1 p2 p3 p4 p5
      go_wp2_with fail
      (with_reducible refine HCD.out.mono ?_)
      rintro e w4 ⟨rfl, hb4⟩
      have HB4 : Hid (Below w.heap.size w w4) := HB1.out.trans (hb4.mono HB1.out.size)
      have hg4 := (row_facts HO1.out).1
      have HO4 : Hid (w4.ownsRow w.heap.size 25 6 (.slice (some ⟨g', 0, none⟩) n cap') n (lfsC l)) := row_keep HO1.out (Grw.of_below (X := fun j => W1.heap.size ≤ j) hb4 (fun k h _ => h)) (fun j e => by injection e with e; have e : g' = j := e; subst e; exact ⟨hg4, by omega⟩)
      have hfz := (row_facts HO4.out).2.2
      have hz0 := hfz (j * 6)
      have hz1 := hfz (j * 6 + 1)
      have hz2 := hfz (j * 6 + 2)
      have hz3 := hfz (j * 6 + 3)
      have hz4 := hfz (j * 6 + 4)
      have hz5 := hfz (j * 6 + 5)
      have hat4 := lfs_at (own_cs HO4.out) HX1.out
      have HSX4 := Lib.hid (HSX.out w4 HO4.out)
      have hG : Grw (fun j => j = g') w4 ((((((w4.setCell ⟨g', j * 6, none⟩ (.int .i64 k)).setCell ⟨g', j * 6 + 1, none⟩ (.bool b)).setCell ⟨g', j * 6 + 2, none⟩ (.int .i64 m)).setCell ⟨g', j * 6 + 3, none⟩ (.string tx)).setCell ⟨g', j * 6 + 4, none⟩ (.slice none 0 0)).setCell ⟨g', j * 6 + 5, none⟩ (.slice none 0 0)) := gr_row6 w4 g' j _ _ _ _ _ _
      have HBN := Lib.hid (bel_grw HB4.out hG hbg HB4.out.size)
      rw [Nat.zero_add, HPX.out] at hat4
      obtain ⟨p0, p1, p2, p3, p4, p5⟩ := cs6 hat4
      clear hb4 hfz hat4 hG m0 m1 m2 m3 m4 m5
      go_upto_region 6 with (fail)
      generalize ((((((w4.setCell ⟨g', j * 6, none⟩ (.int .i64 k)).setCell ⟨g', j * 6 + 1, none⟩ (.bool b)).setCell ⟨g', j * 6 + 2, none⟩ (.int .i64 m)).setCell ⟨g', j * 6 + 3, none⟩ (.string tx)).setCell ⟨g', j * 6 + 4, none⟩ (.slice none 0 0)).setCell ⟨g', j * 6 + 5, none⟩ (.slice none 0 0)) = w5 at HSX4 HBN ⊢
      clear hz0 hz1 hz2 hz3 hz4 hz5 p0 p1 p2 p3 p4 p5
      go_wp2
      go_roundw
      case rel => exact ⟨j + 1, by omega, by go_num, HSX4, HBN⟩
      case measure => simp [intOf]; omega
    · have hjl : ¬ (j : Int) < (n : Int) := by omega
      go_wp2
      go_ret
      exact ⟨g', cap', rfl, HO.out, HB.out⟩
set_option maxRecDepth 100000 in
set_option maxHeartbeats 2000000 in
theorem OfList_c (g off cap : Nat) (l : List Lf) (w : World) (hc : CsAt w g off (lfsC l)) (hg : g < w.heap.size) (hn : l.length ≤ 100000) :
    Calls Tryd.prog 16 #[.slice (some ⟨g, off, none⟩) l.length cap] w fun e w' => ∃ g' cap', e = .returned (.agg #[.int .i64 4, .bool false, .int .i64 0, .string ⟨#[]⟩, .slice (some ⟨g', 0, none⟩) l.length cap', .slice none 0 0]) ∧ w'.ownsRow w.heap.size 25 6 (.slice (some ⟨g', 0, none⟩) l.length cap') l.length (lfsC l) ∧ Below w.heap.size w w' := by
  obtain ⟨W0, hW0, hk0, hb0⟩ := one_v w
  have HW0 := Lib.hid hW0
  have HB0 := Lib.hid hb0
  have HR0 := Lib.hid hk0
  have hlt : w.heap.size < W0.heap.size := (Array.getElem?_eq_some_iff.1 hk0).1
  have HCP := Lib.hid (copies_lf g off cap l W0 (CsAt.keep (P := fun _ => True) (Kep.of hb0) trivial hg hc) (by omega) hn)
  obtain ⟨n, hnn⟩ : ∃ n, n = l.length := ⟨_, rfl⟩
  unfold CpQ at HCP
  rw [← hnn] at HCP ⊢
  clear hW0 hb0 hk0 hc hg hn hnn
  go_enter Tryd.func16, Tryd.ntmps16
  go_upto_region 1 with (fail)
  rw [← HW0.out]
  go_wp2_with fail
  (with_reducible refine HCP.out.mono ?_)
  rintro e w1 ⟨g', cap', rfl, ho, hb⟩
  have HO := Lib.hid ho
  have hgg := (row_facts ho).2.1
  have hgl := (row_facts ho).1
  have HB1 := Lib.hid (btr HB0.out hb)
  have HR1 : Hid (w1.heap[w.heap.size]? = some (obV 0 false 0 ⟨#[]⟩ none 0 0 none 0 0)) := (hb.block _ hlt).trans HR0.out
  clear ho hb HCP
  obtain ⟨u0, u1, u2, u3, u4, u5⟩ := cells6 HR1.out
  have z0 := frz HR1.out 0
  have z1 := frz HR1.out 1
  have z2 := frz HR1.out 2
  have z3 := frz HR1.out 3
  have z4 := frz HR1.out 4
  have z5 := frz HR1.out 5
  have HH := Lib.hid (set6 HR1.out (.int .i64 4) (.bool false) (.int .i64 0) (.string ⟨#[]⟩) (.slice (some ⟨g', 0, none⟩) n cap') (.slice none 0 0))
  have HZ := Lib.hid (gr_set6 w1 w.heap.size (.int .i64 4) (.bool false) (.int .i64 0) (.string ⟨#[]⟩) (.slice (some ⟨g', 0, none⟩) n cap') (.slice none 0 0))
  go_wp2_with fail
  obtain ⟨d0, d1, d2, d3, d4, d5⟩ := cells6 HH.out
  clear u0 u1 u2 u3 u4 u5 z0 z1 z2 z3 z4 z5
  (with_reducible refine bodyPost_ret (v := .agg #[.int .i64 4, .bool false, .int .i64 0, .string ⟨#[]⟩, .slice (some ⟨g', 0, none⟩) n cap', .slice none 0 0]) (by simp [results, Tryd.results16, go_sem, d0, d1, d2, d3, d4, d5]) rfl ?_)
  refine ⟨g', cap', rfl, ?_, bel_grw HB1.out HZ.out (Nat.le_refl _) HB1.out.size⟩
  have h1 := row_keep HO.out HZ.out (fun j e => by injection e with e; have e : g' = j := e; subst e; exact ⟨hgl, by omega⟩)
  refine ⟨h1.1, ?_⟩
  rcases h1.2 with ⟨e, _⟩ | ⟨gg, cc, cur, e1, e2, e3⟩
  · cases e
  · exact .inr ⟨gg, cc, cur, e1, by omega, e3⟩
set_option maxRecDepth 100000 in
set_option maxHeartbeats 4000000 in
theorem makes_law (s : ByteArray) (m : Int) (b : Bool) (w : World) (hE : Env w) :
    Calls Tryd.prog 5 #[.string s, .int .i64 m, .bool b] w fun e w' => e = .returned (.bool true) ∧ Below w.heap.size w w' := by
  have HE := Lib.hid hE
  clear hE
  go_enter Tryd.func5, Tryd.ntmps5
  go_wp2_with fail
  (with_reducible refine (OfText_c s w).mono ?_)
  rintro e w1 ⟨rfl, hb1⟩
  have HB1 := Lib.hid hb1
  clear hb1
  go_wp2_with fail
  (with_reducible refine (OfNumber_c m w1).mono ?_)
  rintro e w2 ⟨rfl, hb2⟩
  have HB2 := Lib.hid (btr HB1.out hb2)
  clear hb2
  go_wp2_with fail
  (with_reducible refine (OfBool_c b w2).mono ?_)
  rintro e w3 ⟨rfl, hb3⟩
  have HB3 := Lib.hid (btr HB2.out hb3)
  clear hb3
  go_wp2_with fail
  obtain ⟨L, hL⟩ : ∃ L : List Lf, L = [(3, false, 0, s), (2, false, m, ⟨#[]⟩), (1, b, 0, ⟨#[]⟩)] := ⟨_, rfl⟩
  have hcs : lfsC L = [.int .i64 3, .bool false, .int .i64 0, .string s, .slice none 0 0, .slice none 0 0, .int .i64 2, .bool false, .int .i64 m, .string ⟨#[]⟩, .slice none 0 0, .slice none 0 0, .int .i64 1, .bool b, .int .i64 0, .string ⟨#[]⟩, .slice none 0 0, .slice none 0 0] := by subst hL; rfl
  obtain ⟨W4, hW4, hk4, hb4⟩ : ∃ W4, W4 = w3.alloc (.cells #[.int .i64 3, .bool false, .int .i64 0, .string s, .slice none 0 0, .slice none 0 0, .int .i64 2, .bool false, .int .i64 m, .string ⟨#[]⟩, .slice none 0 0, .slice none 0 0, .int .i64 1, .bool b, .int .i64 0, .string ⟨#[]⟩, .slice none 0 0, .slice none 0 0] 25) ∧ W4.heap[w3.heap.size]? = some (.cells #[.int .i64 3, .bool false, .int .i64 0, .string s, .slice none 0 0, .slice none 0 0, .int .i64 2, .bool false, .int .i64 m, .string ⟨#[]⟩, .slice none 0 0, .slice none 0 0, .int .i64 1, .bool b, .int .i64 0, .string ⟨#[]⟩, .slice none 0 0, .slice none 0 0] 25 (0, 0)) ∧ Below w3.heap.size w3 W4 := ⟨_, rfl, heap_alloc_new w3 _, (Below.refl _ _).alloc (Nat.le_refl _) _⟩
  have hc4 : CsAt W4 w3.heap.size 0 (lfsC L) := fun j v hv => by
    rw [cell_of_row _ _ _ _ _ _ hk4, Nat.zero_add, ← hv, hcs]
    simp
  have hll : L.length = 3 := by subst hL; rfl
  have HOL := Lib.hid (OfList_c w3.heap.size 0 3 L W4 hc4 (Array.getElem?_eq_some_iff.1 hk4).1 (by omega))
  rw [hll] at HOL
  have HCS := Lib.hid hcs
  have HW4 := Lib.hid hW4
  have HB4 := Lib.hid (btr HB3.out hb4)
  clear hW4 hk4 hb4 hc4 hll hcs hL
  rw [← HW4.out]
  (with_reducible refine HOL.out.mono ?_)
  rintro e w5 ⟨g', cap', rfl, ho, hb5⟩
  obtain ⟨W6, hW6, hk6, hb6⟩ := one_v6 w5 4 false 0 ⟨#[]⟩ (some ⟨g', 0, none⟩) 3 cap' none 0 0
  have HW6 := Lib.hid hW6
  have HB6 := Lib.hid (btr (btr HB4.out hb5) hb6)
  have hgl := (row_facts ho).1
  have ho6 : CsAt W6 g' 0 (lfsC L) := CsAt.keep (P := fun _ => True) (Kep.of hb6) trivial hgl (own_cs ho)
  rw [HCS.out] at ho6
  have p0 : W6.cell? ⟨g', 0, none⟩ = some (.int .i64 3) := ho6 0 _ rfl
  have p3 : W6.cell? ⟨g', 3, none⟩ = some (.string s) := ho6 3 _ rfl
  have p6 : W6.cell? ⟨g', 6, none⟩ = some (.int .i64 2) := ho6 6 _ rfl
  have p8 : W6.cell? ⟨g', 8, none⟩ = some (.int .i64 m) := ho6 8 _ rfl
  have p12 : W6.cell? ⟨g', 12, none⟩ = some (.int .i64 1) := ho6 12 _ rfl
  have p13 : W6.cell? ⟨g', 13, none⟩ = some (.bool b) := ho6 13 _ rfl
  have hms : s = mkS s.data.toList := mkS_of rfl
  have hrep : Rep (fun _ => True) W6 (.mk 4 false 0 [] [.mk 3 false 0 s.data.toList [] [], .mk 2 false m [] [] [], .mk 1 b 0 [] [] []] []) (c6 4 false 0 (mkS []) (some ⟨g', 0, none⟩) 3 cap' none 0 0) := by
    unfold Rep
    refine ⟨some ⟨g', 0, none⟩, cap', .slice none 0 0, rfl, rdk_nil _ _, fun _ => ⟨g', 0, rfl, trivial, Nat.lt_of_lt_of_le hgl hb6.size, ?_⟩⟩
    refine RepA.list (cs := [c6 3 false 0 s none 0 0 none 0 0, c6 2 false m (mkS []) none 0 0 none 0 0, c6 1 b 0 (mkS []) none 0 0 none 0 0]) ⟨?_, rep_leaf _ _ _ _ _ _, rep_leaf _ _ _ _ _ _, trivial⟩ (fun j v hv => ho6 j v hv)
    have := rep_leaf (fun _ => True) W6 3 false 0 s.data.toList
    rwa [← hms] at this
  have HD := Lib.hid (Depth_c hrep (by simp [wid, widL]) (by simp [dep, depL]))
  rw [show dep (.mk 4 false 0 [] [.mk 3 false 0 s.data.toList [] [], .mk 2 false m [] [] [], .mk 1 b 0 [] [] []] []) = 1 by simp [dep, depL], show mkS [] = ⟨#[]⟩ from rfl] at HD
  unfold DpQ at HD
  obtain ⟨a0, a1, a2, a3, a4, a5⟩ := cells6 hk6
  clear ho hb5 hW6 hk6 hb6 ho6 hgl hms hrep HOL
  go_upto_region 2 with (fail)
  rw [← HW6.out]
  go_wp2_with fail
  (with_reducible refine HD.out.mono ?_)
  rintro e w7 ⟨rfl, hb7⟩
  have HB7 := Lib.hid (btr HB6.out hb7)
  clear hb7 p0 p3 p6 p8 p12 p13 a0 a1 a2 a3 a4 a5
  go_wp2_with fail
  (with_reducible refine (awake_c w7 (HE.out.go HB7.out)).mono ?_)
  rintro e w8 ⟨rfl, hb8⟩
  have HB8 := Lib.hid (btr HB7.out hb8)
  clear hb8
  go_wp2
  go_ret
  exact ⟨rfl, HB8.out⟩
end Go.Proofs.YtkphainopofejaaDoor.Jv
