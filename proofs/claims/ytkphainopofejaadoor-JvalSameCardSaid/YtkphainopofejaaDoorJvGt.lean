/- Contracts and plain mathematics of some packages' functions, laid together; conditions as each one says. -/
import Derived.Test.YtkphainopofejaaDoorJvGs
import Derived.Deep.Strs
import Derived.Deep.RegionWith
import Derived.Deep.DeepCutAuto
namespace Go.Proofs.YtkphainopofejaaDoor.Jv
open Jt
open Go.RowKit Go.ChangeMaps Go.MapKept Go.WideMaps Go.ChangeShapes Go.WideShapes
set_option linter.unusedSimpArgs false
set_option linter.unusedVariables false

theorem ceR : Tryd.prog.cellsOf 36 = 6 := by kernel_rfl
theorem ceJ : Tryd.prog.cellsOf 25 = 6 := by kernel_rfl
theorem ce3 : Tryd.prog.cellsOf 3 = 1 := by kernel_rfl
theorem ce4 : Tryd.prog.cellsOf 4 = 1 := by kernel_rfl
theorem ce2 : Tryd.prog.cellsOf 2 = 1 := by kernel_rfl
theorem ce9 : Tryd.prog.cellsOf 9 = 1 := by kernel_rfl
theorem ceV : Tryd.prog.cellsOf 34 = 1 := by kernel_rfl
theorem ceS : Tryd.prog.cellsOf 23 = 1 := by kernel_rfl
theorem mkS_data (s : ByteArray) : mkS s.data.toList = s := (mkS_of rfl).symm
theorem addP (b off j : Nat) : (⟨b, off, none⟩ : Addr).add j = ⟨b, off + j, none⟩ := by unfold Addr.add; split <;> simp_all
theorem repL_mk {P : Nat → Prop} {W : World} : ∀ (xs : List JV) (g off : Nat), (∀ i (hi : i < xs.length), ∃ cs, CsAt W g (off + i * 6) cs ∧ Rep P W xs[i] cs) → RepL P W xs g off
  | [], _, _, _ => trivial
  | x :: r, g, off, h => by
    have h0 := h 0 (by simp)
    simp only [Nat.zero_mul, Nat.add_zero, List.getElem_cons_zero] at h0
    refine ⟨h0, repL_mk r g (off + 6) (fun i hi => ?_)⟩
    have := h (i + 1) (by simpa using hi)
    simpa [Nat.add_mul, Nat.add_assoc, Nat.add_comm, Nat.add_left_comm] using this
theorem widL_le : ∀ (xs : List JV) (B : Nat), (∀ x ∈ xs, wid x ≤ B) → widL xs ≤ B
  | [], B, _ => Nat.zero_le _
  | x :: r, B, h => by
    rw [widL]
    have h1 := h x (List.mem_cons_self ..)
    have h2 := widL_le r B (fun y hy => h y (List.mem_cons_of_mem _ hy))
    omega
instance : Inhabited JV := ⟨zV⟩
set_option maxRecDepth 100000 in
/-- a value that came in, as a tree -/
theorem rep_open {H : Type} {enc : TypeId × Value → H} {W : World} {held : Bool} : ∀ (N : Nat) {fuel : Nat} {cs : List Value} {x : DataW H × List MemPlace}, SizeOf.sizeOf x.1 ≤ N → DataW.trod enc Tryd.prog W 0 (fun _ => true) held fuel 36 cs = some x → ∃ v : JV, Rep (fun _ => True) W v cs ∧ wid v ≤ maxLen
  | 0, fuel, cs, x, hN, h => by
    exfalso
    obtain ⟨xs, n, _, rfl, hl, hlen, hf⟩ := DataW.trod_struct Tryd.underlying36 h
    rw [DataW.agg.sizeOf_spec] at hN; omega
  | N + 1, fuel, cs, x, hN, h => by
    obtain ⟨xs, n, _, rfl, hl, hlen, hf⟩ := DataW.trod_struct Tryd.underlying36 h
    rw [ceR] at hl
    match xs, hlen, cs, hl with
    | [y0, y1, y2, y3, y4, y5], _, [v0, v1, v2, v3, v4, v5], _ =>
      have g0 := hf 0 _ rfl
      have g1 := hf 1 _ rfl
      have g2 := hf 2 _ rfl
      have g3 := hf 3 _ rfl
      have g4 := hf 4 _ rfl
      have g5 := hf 5 _ rfl
      simp [ce3, ce4, ce2, ce9, ceV, ceS] at g0 g1 g2 g3 g4 g5
      obtain ⟨a0, q0, _, _⟩ := DataW.trod_int Tryd.underlying3 g0
      obtain ⟨a1, q1, _⟩ := DataW.trod_bool Tryd.underlying4 g1
      obtain ⟨a2, q2, _, _⟩ := DataW.trod_int Tryd.underlying2 g2
      obtain ⟨a3, q3, _, _⟩ := DataW.trod_string Tryd.underlying9 g3
      have q0' : v0 = .int .i64 a0 := by simpa using q0
      have q1' : v1 = .bool a1 := by simpa using q1
      have q2' : v2 = .int .i64 a2 := by simpa using q2
      have q3' : v3 = .string a3 := by simpa using q3
      subst q0' q1' q2' q3'
      have hK : ∃ ks : List (List UInt8), RdK (fun _ => True) W v5 ks ∧ ks.length ≤ maxLen := by
        rcases Deep.open_strs Tryd.underlying23 Tryd.underlying9 ce9 g5 with ⟨hcs, _⟩ | ⟨a, len, cap, m, Sx, hcs, hb, hl, hm, hmm, hx, hat⟩
        · have e : v5 = .slice none 0 0 := by simpa using hcs
          exact ⟨[], ⟨none, 0, e, Nat.le_refl _, fun h => absurd rfl h⟩, Nat.zero_le _⟩
        · have e : v5 = .slice (some a) len cap := by simpa using hcs
          have hlm : len ≤ m := by rw [hmm]; simp; exact hl
          refine ⟨(List.range len).map fun i => (Sx i).data.toList, ⟨some a, cap, by rw [e]; simp, by simpa using hl, fun hne => ?_⟩, by simp; omega⟩
          have h0 : 0 < len := by
            rcases Nat.eq_zero_or_pos len with h | h
            · subst h; simp at hne
            · exact h
          obtain ⟨b, off, spot⟩ := a
          have hc := (hat 0 (by omega)).1
          have hspot : spot = none := by simpa [Addr.add] using World.cell?_spot hc
          subst hspot
          have hblk := World.block_lt_of_cell? W _ hc
          refine ⟨b, off, rfl, trivial, by simpa [Addr.add] using hblk, fun j v hv => ?_⟩
          rw [List.getElem?_map, List.getElem?_map] at hv
          by_cases hj : j < len
          · rw [List.getElem?_range hj] at hv
            simp only [Option.map_some, Option.some.injEq] at hv
            have := (hat j (by omega)).1
            rw [addP] at this
            rw [← hv, this, mkS_data]
          · rw [List.getElem?_eq_none (by simpa using hj)] at hv; simp at hv
      obtain ⟨ks, hks, hkl⟩ := hK
      rw [DataW.agg.sizeOf_spec] at hN
      simp only [List.map_cons, List.map_nil, List.cons.sizeOf_spec] at hN
      rcases Deep.open_slice Tryd.underlying34 g4 with ⟨hcs, _⟩ | ⟨a, len, cap, m, n', D, Pl, hcs, hb, hl, hm, hmm, hx, hat⟩
      · have e : v4 = .slice none 0 0 := by simpa using hcs
        refine ⟨.mk a0 a1 a2 a3.data.toList [] ks, ?_, by rw [wid, widL]; simp; exact hkl⟩
        rw [e]
        unfold Rep
        exact ⟨none, 0, v5, by rw [mkS_data]; rfl, hks, fun h => absurd rfl h⟩
      · have e : v4 = .slice (some a) len cap := by simpa using hcs
        have hlm : len ≤ m := by rw [hmm]; simp; exact hl
        have hd := congrArg Prod.fst hx
        simp only at hd
        have each : ∀ i, i < len → ∃ q : JV × List Value, (∀ j v, q.2[j]? = some v → W.cell? ((a.add (i * 6)).add j) = some v) ∧ Rep (fun _ => True) W q.1 q.2 ∧ wid q.1 ≤ maxLen := fun i hi => by
          obtain ⟨cs', h1, h2⟩ := hat i (by omega)
          rw [ceR] at h1
          obtain ⟨_, hlen, hcell⟩ := World.cells?_some h1
          have hsz : SizeOf.sizeOf (D i) ≤ N := by
            have : D i ∈ (List.range len).map D := List.mem_map.2 ⟨i, List.mem_range.2 hi, rfl⟩
            have h3 := List.sizeOf_lt_of_mem this
            rw [hd, DataW.slice.sizeOf_spec] at hN
            omega
          obtain ⟨v, hv, hw⟩ := rep_open N (x := (D i, Pl i)) hsz h2
          refine ⟨(v, cs'), fun j u hu => ?_, hv, hw⟩
          have hu : cs'[j]? = some u := hu
          have hj : j < 6 := by
            rcases Nat.lt_or_ge j 6 with h | h
            · exact h
            · rw [List.getElem?_eq_none (by omega)] at hu; cases hu
          rw [hcell j hj]; exact hu
        obtain ⟨q, hq⟩ := Deep.choose_lt each
        refine ⟨.mk a0 a1 a2 a3.data.toList ((List.range len).map fun i => (q i).1) ks, ?_, ?_⟩
        · rw [e]
          unfold Rep
          refine ⟨some a, cap, v5, by rw [mkS_data]; simp, hks, fun hne => ?_⟩
          have h0 : 0 < len := by
            rcases Nat.eq_zero_or_pos len with h | h
            · subst h; simp at hne
            · exact h
          obtain ⟨b, off, spot⟩ := a
          have hl6 := rep_len (hq 0 h0).2.1
          have hc := (hq 0 h0).1 0 _ (List.getElem?_eq_getElem (by omega))
          have hspot : spot = none := by simpa [Addr.add] using World.cell?_spot hc
          subst hspot
          have hblk := World.block_lt_of_cell? W _ hc
          refine ⟨b, off, rfl, trivial, by simpa [Addr.add] using hblk, repL_mk _ _ _ fun i hi => ?_⟩
          have hi' : i < len := by simpa using hi
          refine ⟨(q i).2, fun j v hv => ?_, ?_⟩
          · have := (hq i hi').1 j v hv
            rw [addP, addP] at this
            exact this
          · simpa using (hq i hi').2.1
        · rw [wid]
          have h1 := widL_le ((List.range len).map fun i => (q i).1) maxLen (fun x hx => by
            obtain ⟨i, hi, rfl⟩ := List.mem_map.1 hx
            exact (hq i (List.mem_range.1 hi)).2.2)
          simp only [List.length_map, List.length_range]
          omega
end Go.Proofs.YtkphainopofejaaDoor.Jv
namespace Go.Proofs.YtkphainopofejaaDoor.Jv
open Jt
open Go.RowKit Go.ChangeMaps Go.MapKept Go.WideMaps
set_option linter.unusedSimpArgs false
set_option linter.unusedVariables false

theorem depL_mx : ∀ (xs : List JV) (B : Nat), (∀ x ∈ xs, dep x ≤ B) → depL xs ≤ B
  | [], B, _ => Nat.zero_le _
  | x :: r, B, h => by
    rw [depL]
    have h1 := h x (List.mem_cons_self ..)
    have h2 := depL_mx r B (fun y hy => h y (List.mem_cons_of_mem _ hy))
    omega
theorem cutJ_wid : ∀ (d : Nat) (x : JV), wid (cutJ d x) ≤ 6
  | 0, .mk k is n t xs ks => by rw [cutJ_mk, wid, show cutXs 0 xs = [] from rfl, widL, List.length_take]; simp; omega
  | d + 1, .mk k is n t xs ks => by
    rw [cutJ_mk, wid, show cutXs (d + 1) xs = (xs.take 5).map (cutJ d) from rfl, List.length_take, List.length_map, List.length_take]
    have := widL_le ((xs.take 5).map (cutJ d)) 6 (fun x hx => by obtain ⟨y, _, rfl⟩ := List.mem_map.1 hx; exact cutJ_wid d y)
    omega
theorem cutJ_dep : ∀ (d : Nat) (x : JV), dep (cutJ d x) ≤ d + 1
  | 0, .mk k is n t xs ks => by rw [cutJ_mk, dep, show cutXs 0 xs = [] from rfl, depL]; split <;> omega
  | d + 1, .mk k is n t xs ks => by
    rw [cutJ_mk, dep, show cutXs (d + 1) xs = (xs.take 5).map (cutJ d) from rfl]
    have := depL_mx ((xs.take 5).map (cutJ d)) (d + 1) (fun x hx => by obtain ⟨y, _, rfl⟩ := List.mem_map.1 hx; exact cutJ_dep d y)
    split <;> omega
/-- a value that lies in blocks below the boxes or above them -/
abbrev Pz (B : Nat) : Nat → Prop := fun k => k < B ∨ B + 2 ≤ k
theorem bxkeep {B : Nat} {V V' : World} {a b : Obj} (hb : Below V.heap.size V V') (h0 : V.heap[B]? = some a) (h1 : V.heap[B + 1]? = some b) : V'.heap[B]? = some a ∧ V'.heap[B + 1]? = some b :=
  ⟨(hb.block _ (Array.getElem?_eq_some_iff.1 h0).1).trans h0, (hb.block _ (Array.getElem?_eq_some_iff.1 h1).1).trans h1⟩
set_option maxRecDepth 100000 in
set_option maxHeartbeats 8000000 in
theorem same_law {x y : JV} {ca cb : List Value} (w : World) (hx : Rep (fun _ => True) w x ca) (hy : Rep (fun _ => True) w y cb) (hwx : wid x ≤ maxLen) (hwy : wid y ≤ maxLen) (hE : Env w) :
    Calls Tryd.prog 4 #[.agg ca.toArray, .agg cb.toArray] w fun e w' => e = .returned (.bool true) ∧ Below w.heap.size w w' := by
  have HE := Lib.hid hE
  obtain ⟨X, hX⟩ : ∃ X, X = cutJ 3 x := ⟨_, rfl⟩
  obtain ⟨Y, hY⟩ : ∃ Y, Y = cutJ 3 y := ⟨_, rfl⟩
  have hwX6 : wid X ≤ 1000000 := by have := cutJ_wid 3 x; rw [hX]; omega
  have hwY6 : wid Y ≤ 1000000 := by have := cutJ_wid 3 y; rw [hY]; omega
  have hwX : wid X ≤ 100000 := by have := cutJ_wid 3 x; rw [hX]; omega
  have hwY : wid Y ≤ 100000 := by have := cutJ_wid 3 y; rw [hY]; omega
  have hdX : dep X ≤ 1000000 := by have := cutJ_dep 3 x; rw [hX]; omega
  have HXR := Lib.hid (Rep.mono (P' := fun k => k < w.heap.size) (fun k _ hl => hl) _ hx)
  have HYR := Lib.hid (Rep.mono (P' := fun k => k < w.heap.size) (fun k _ hl => hl) _ hy)
  obtain ⟨⟨k, is, m, t, us, ks⟩, hxx⟩ : ∃ v, x = v := ⟨_, rfl⟩
  obtain ⟨⟨k', is', m', t', us', ks'⟩, hyy⟩ : ∃ v, y = v := ⟨_, rfl⟩
  rw [hxx] at hx
  rw [hyy] at hy
  obtain ⟨ao, q1, ap, q2, rfl, _⟩ := rep_c6 hx
  obtain ⟨ao', q1', ap', q2', rfl, _⟩ := rep_c6 hy
  obtain ⟨W0, hW0, hk0, hk1, hb0⟩ := two_o w #[.int .i64 k, .bool is, .int .i64 m, .string (mkS t), .slice ao us.length q1, .slice ap ks.length q2] #[.int .i64 k', .bool is', .int .i64 m', .string (mkS t'), .slice ao' us'.length q1', .slice ap' ks'.length q2'] 36 36
  have HW0 := Lib.hid hW0
  have HB0 := Lib.hid hb0
  have HK0 := Lib.hid hk0
  have HK1 := Lib.hid hk1
  have hsz : W0.heap.size = w.heap.size + 2 := by rw [hW0]; simp
  obtain ⟨a0, a1, a2, a3, a4, a5⟩ := cells6 hk0
  obtain ⟨b0, b1, b2, b3, b4, b5⟩ := cells6 hk1
  have HCA : Hid (∀ V, Below W0.heap.size W0 V → Calls Tryd.prog 12 #[.agg #[.int .i64 k, .bool is, .int .i64 m, .string (mkS t), .slice ao us.length q1, .slice ap ks.length q2], .int .i64 3] V (CuQ X (fun k => k < w.heap.size) V)) := fun V hV => by
    rw [hX]
    exact cut_all 3 x (by omega) hwx _ V _ (Rep.keep (Kep.of (btr hb0 hV)) _ HXR.out)
  have HCB : Hid (∀ V, Below W0.heap.size W0 V → Calls Tryd.prog 12 #[.agg #[.int .i64 k', .bool is', .int .i64 m', .string (mkS t'), .slice ao' us'.length q1', .slice ap' ks'.length q2'], .int .i64 3] V (CuQ Y (fun k => k < w.heap.size) V)) := fun V hV => by
    rw [hY]
    exact cut_all 3 y (by omega) hwy _ V _ (Rep.keep (Kep.of (btr hb0 hV)) _ HYR.out)
  unfold CuQ at HCA HCB
  clear hW0 hk0 hk1 hb0 hx hy hX hY hxx hyy HXR HYR
  go_enter Tryd.func4, Tryd.ntmps4
  go_upto_region 1 with (fail)
  rw [← HW0.out]
  go_region_with (first
    | (go_at_call 12; (with_reducible refine (HCA.out _ (by first | exact (Below.refl _ _).drew | exact (Below.refl _ _).drew.drew | exact (Below.refl _ _).drew.drew.drew)).mono ?_); rintro e w1 ⟨xk, xb, xn, xt, xo, xl, xq, xp, xr, xs, rfl, hr1, hb1⟩; have hb1' : Below W0.heap.size W0 w1 := ⟨hb1.os, hb1.tape, hb1.output, hb1.size, hb1.block⟩; have HBW1 := Lib.hid hb1'; have HRX := Lib.hid hr1; have HKA1 := Lib.hid ((hb1'.block _ (Array.getElem?_eq_some_iff.1 HK0.out).1).trans HK0.out); have HKB1 := Lib.hid ((hb1'.block _ (Array.getElem?_eq_some_iff.1 HK1.out).1).trans HK1.out); obtain ⟨b0, b1, b2, b3, b4, b5⟩ := cells6 HKB1.out; clear hr1 hb1 hb1')
    | (go_at_call 12; (with_reducible refine (HCB.out _ (by first | exact HBW1.out | exact HBW1.out.drew | exact HBW1.out.drew.drew)).mono ?_); rintro e w2 ⟨yk, yb, yn, yt, yo, yl, yq, yp, yr, ys, rfl, hr2, hb2⟩; have hb2' : Below w1.heap.size w1 w2 := ⟨hb2.os, hb2.tape, hb2.output, hb2.size, hb2.block⟩; have HBW2 := Lib.hid hb2'; have HRY := Lib.hid hr2; have HKA2 := Lib.hid ((hb2'.block _ (Array.getElem?_eq_some_iff.1 HKA1.out).1).trans HKA1.out); have HKB2 := Lib.hid ((hb2'.block _ (Array.getElem?_eq_some_iff.1 HKB1.out).1).trans HKB1.out); obtain ⟨c0, c1, c2, c3, c4, c5⟩ := cells6 HKA2.out; obtain ⟨e0, e1, e2, e3, e4, e5⟩ := cells6 HKB2.out; have f0 := frz HKA2.out 0; have f1 := frz HKA2.out 1; have f2 := frz HKA2.out 2; have f3 := frz HKA2.out 3; have f4 := frz HKA2.out 4; have f5 := frz HKA2.out 5; have g0 := frz HKB2.out 0; have g1 := frz HKB2.out 1; have g2 := frz HKB2.out 2; have g3 := frz HKB2.out 3; have g4 := frz HKB2.out 4; have g5 := frz HKB2.out 5; clear hr2 hb2 hb2'))
  · skip
    clear a0 a1 a2 a3 a4 a5 b0 b1 b2 b3 b4 b5 c0 c1 c2 c3 c4 c5 e0 e1 e2 e3 e4 e5 f0 f1 f2 f3 f4 f5 g0 g1 g2 g3 g4 g5
    obtain ⟨wA, hwA⟩ : ∃ wA, wA = ((((((w2.setCell ⟨w.heap.size, 0, none⟩ (.int .i64 xk)).setCell ⟨w.heap.size, 1, none⟩ (.bool xb)).setCell ⟨w.heap.size, 2, none⟩ (.int .i64 xn)).setCell ⟨w.heap.size, 3, none⟩ (.string xt)).setCell ⟨w.heap.size, 4, none⟩ (.slice xo xl xq)).setCell ⟨w.heap.size, 5, none⟩ (.slice xp xr xs)) := ⟨_, rfl⟩
    have HKA3 : Hid (wA.heap[w.heap.size]? = some (obR xk xb xn xt xo xl xq xp xr xs)) := by rw [hwA]; exact Lib.hid (set6 HKA2.out _ _ _ _ _ _)
    have HGA : Hid (Grw (fun j => j = w.heap.size) w2 wA) := by rw [hwA]; exact Lib.hid (gr_set6 w2 w.heap.size _ _ _ _ _ _)
    have HKB3 := Lib.hid ((HGA.out.block (Array.getElem?_eq_some_iff.1 HKB2.out).1 (by omega)).trans HKB2.out)
    rw [← hwA]
    clear hwA
    obtain ⟨V0, hV0⟩ : ∃ V0, V0 = ((((((wA.setCell ⟨w.heap.size + 1, 0, none⟩ (.int .i64 yk)).setCell ⟨w.heap.size + 1, 1, none⟩ (.bool yb)).setCell ⟨w.heap.size + 1, 2, none⟩ (.int .i64 yn)).setCell ⟨w.heap.size + 1, 3, none⟩ (.string yt)).setCell ⟨w.heap.size + 1, 4, none⟩ (.slice yo yl yq)).setCell ⟨w.heap.size + 1, 5, none⟩ (.slice yp yr ys)) := ⟨_, rfl⟩
    have HKB4 : Hid (V0.heap[w.heap.size + 1]? = some (obR yk yb yn yt yo yl yq yp yr ys)) := by rw [hV0]; exact Lib.hid (set6 HKB3.out _ _ _ _ _ _)
    have HGB : Hid (Grw (fun j => j = w.heap.size + 1) wA V0) := by rw [hV0]; exact Lib.hid (gr_set6 wA (w.heap.size + 1) _ _ _ _ _ _)
    have HKA4 := Lib.hid ((HGB.out.block (Array.getElem?_eq_some_iff.1 HKA3.out).1 (by omega)).trans HKA3.out)
    rw [← hV0]
    clear hV0
    have HBV0 : Hid (Up w V0) := Up.one (Up.one (Up.be (Up.be (Grw.of_below HB0.out (fun k h _ => h)) HBW1.out) HBW2.out) HGA.out (Nat.le_refl _)) HGB.out (by omega)
    have kA : Kep (Pz w.heap.size) w2 V0 := ⟨Nat.le_trans HGA.out.size HGB.out.size, fun k hk hl => (HGB.out.block (Nat.lt_of_lt_of_le hl HGA.out.size) (by rcases hk with h | h <;> omega)).trans (HGA.out.block hl (by rcases hk with h | h <;> omega))⟩
    have hs0 : W0.heap.size ≤ w1.heap.size := HBW1.out.size
    have HSV0 : Hid (Rep (Pz w.heap.size) V0 X (c6 xk xb xn xt xo xl xq xp xr xs) ∧ Rep (Pz w.heap.size) V0 Y (c6 yk yb yn yt yo yl yq yp yr ys)) := ⟨Rep.keep kA _ (Rep.keep (Kep.of HBW2.out) _ (Rep.mono (fun k hk _ => by
        rcases hk with h | h
        · exact .inl h
        · exact .inr (by have h : W0.heap.size ≤ k := h; omega)) _ HRX.out)), Rep.keep kA _ (Rep.mono (fun k hk _ => by
        rcases hk with h | h
        · exact .inl h
        · exact .inr (by have h : w1.heap.size ≤ k := h; omega)) _ HRY.out)⟩
    have hSV0 : (fun V => V.heap[w.heap.size]? = some (obR xk xb xn xt xo xl xq xp xr xs) ∧ V.heap[w.heap.size + 1]? = some (obR yk yb yn yt yo yl yq yp yr ys)) V0 := ⟨HKA4.out, HKB4.out⟩
    have hS0 : (fun V => V.heap[w.heap.size]? = some (obR xk xb xn xt xo xl xq xp xr xs) ∧ V.heap[w.heap.size + 1]? = some (obR yk yb yn yt yo yl yq yp yr ys)) V0.drew := ⟨HKA4.out, HKB4.out⟩
    obtain ⟨V9, hV9⟩ : ∃ V9, V9 = V0.drew := ⟨_, rfl⟩
    have HBV9 : Hid (Up w V9) := by rw [hV9]; exact Lib.hid (Up.be HBV0.out ((Below.refl _ _).drew))
    have HSV9 : Hid (Rep (Pz w.heap.size) V9 X (c6 xk xb xn xt xo xl xq xp xr xs) ∧ Rep (Pz w.heap.size) V9 Y (c6 yk yb yn yt yo yl yq yp yr ys)) := by rw [hV9]; exact Lib.hid ⟨Rep.keep (Kep.of ((Below.refl _ _).drew)) _ HSV0.out.1, Rep.keep (Kep.of ((Below.refl _ _).drew)) _ HSV0.out.2⟩
    have hSV9 : (fun V => V.heap[w.heap.size]? = some (obR xk xb xn xt xo xl xq xp xr xs) ∧ V.heap[w.heap.size + 1]? = some (obR yk yb yn yt yo yl yq yp yr ys)) V9 := by rw [hV9]; exact hS0
    clear hSV0 HSV0 HBV0 HKA4 HKB4
    clear HRX HRY HKA1 HKB1 HKA2 HKB2 HKA3 HKB3 HGA HGB HCA HCB HBW1 HBW2 kA hs0
    go_upto_region 2 with (fail)
    refine wp_region_held_drew (S := (fun V => V.heap[w.heap.size]? = some (obR xk xb xn xt xo xl xq xp xr xs) ∧ V.heap[w.heap.size + 1]? = some (obR yk yb yn yt yo yl yq yp yr ys))) (by kernel_rfl) hS0 (fun hHeld => ?_)
    rw [← hV9] at hHeld ⊢
    clear hV9 hS0 hHeld
    refine wpAnyH_take (i := 0) (oi := ?o0g0) (v := ?v0g0) ?e0g0 ?a0g0 ?b0g0 ?c0g0 ?q0g0 (Or.inl ⟨?w0g0, ?h0g0⟩) ?s0g0 ?r0g0
    case e0g0 => (simp only [List.getElem?_toArray, List.getElem?_cons_zero, List.getElem?_cons_succ]; rfl)
    case a0g0 => kernel_rfl
    case b0g0 => kernel_rfl
    case c0g0 => kernel_rfl
    case q0g0 => exact fun _ _ _ h => h
    case w0g0 => rfl
    case s0g0 => assumption
    case h0g0 => (intro W hSw; obtain ⟨hSa, hSb⟩ := hSw; obtain ⟨a0, a1, a2, a3, a4, a5⟩ := cells6 hSa; obtain ⟨b0, b1, b2, b3, b4, b5⟩ := cells6 hSb; go_simp; try with_reducible rfl)
    try simp only [Act.put, List.setIfInBounds_toArray, List.set_cons_zero, List.set_cons_succ]
    refine wpAnyH_take (i := 2) (oi := ?o2g0) (v := ?v2g0) ?e2g0 ?a2g0 ?b2g0 ?c2g0 ?q2g0 (Or.inl ⟨?w2g0, ?h2g0⟩) ?s2g0 ?r2g0
    case e2g0 => (simp only [List.getElem?_toArray, List.getElem?_cons_zero, List.getElem?_cons_succ]; rfl)
    case a2g0 => kernel_rfl
    case b2g0 => kernel_rfl
    case c2g0 => kernel_rfl
    case q2g0 => exact fun _ _ _ h => h
    case w2g0 => rfl
    case s2g0 => assumption
    case h2g0 => (intro W hSw; obtain ⟨hSa, hSb⟩ := hSw; obtain ⟨a0, a1, a2, a3, a4, a5⟩ := cells6 hSa; obtain ⟨b0, b1, b2, b3, b4, b5⟩ := cells6 hSb; go_simp; try with_reducible rfl)
    try simp only [Act.put, List.setIfInBounds_toArray, List.set_cons_zero, List.set_cons_succ]
    refine wpAnyH_take (i := 5) (oi := ?o5g0) (v := ?v5g0) ?e5g0 ?a5g0 ?b5g0 ?c5g0 ?q5g0 (Or.inl ⟨?w5g0, ?h5g0⟩) ?s5g0 ?r5g0
    case e5g0 => (simp only [List.getElem?_toArray, List.getElem?_cons_zero, List.getElem?_cons_succ]; rfl)
    case a5g0 => kernel_rfl
    case b5g0 => kernel_rfl
    case c5g0 => kernel_rfl
    case q5g0 => exact fun _ _ _ h => h
    case w5g0 => rfl
    case s5g0 => assumption
    case h5g0 => (intro W hSw; obtain ⟨hSa, hSb⟩ := hSw; obtain ⟨a0, a1, a2, a3, a4, a5⟩ := cells6 hSa; obtain ⟨b0, b1, b2, b3, b4, b5⟩ := cells6 hSb; go_simp; try with_reducible rfl)
    try simp only [Act.put, List.setIfInBounds_toArray, List.set_cons_zero, List.set_cons_succ]
    refine wpAnyH_take (i := 6) (oi := ?o6g0) (v := ?v6g0) ?e6g0 ?a6g0 ?b6g0 ?c6g0 ?q6g0 (Or.inl ⟨?w6g0, ?h6g0⟩) ?s6g0 ?r6g0
    case e6g0 => (simp only [List.getElem?_toArray, List.getElem?_cons_zero, List.getElem?_cons_succ]; rfl)
    case a6g0 => kernel_rfl
    case b6g0 => kernel_rfl
    case c6g0 => kernel_rfl
    case q6g0 => exact fun _ _ _ h => h
    case w6g0 => rfl
    case s6g0 => assumption
    case h6g0 => (intro W hSw; obtain ⟨hSa, hSb⟩ := hSw; obtain ⟨a0, a1, a2, a3, a4, a5⟩ := cells6 hSa; obtain ⟨b0, b1, b2, b3, b4, b5⟩ := cells6 hSb; go_simp; try with_reducible rfl)
    try simp only [Act.put, List.setIfInBounds_toArray, List.set_cons_zero, List.set_cons_succ]
    refine wpAnyH_ready (rs := [1]) (by kernel_rfl) (by simp) (AllReadyH.cons (o := ?o1z1g0) ?e1z1g0 (fun K hK => ?k1z1g0) AllReadyH.nil)
    case e1z1g0 => (simp only [List.getElem?_toArray, List.getElem?_cons_zero, List.getElem?_cons_succ]; rfl)
    go_simp
    (with_reducible refine (Ours_c HSV9.out.1 hwX).mono ?_)
    rintro e V1 ⟨oAk, oAb, oAn, oAt, oAo, oAl, oAq, oAp, oAr, oAs, rfl, hrA, hbA⟩
    have HRAV1 := Lib.hid hrA
    have HBV1 : Hid (Up w V1) := Up.be HBV9.out hbA
    have HSV1 : Hid (Rep (Pz w.heap.size) V1 X (c6 xk xb xn xt xo xl xq xp xr xs) ∧ Rep (Pz w.heap.size) V1 Y (c6 yk yb yn yt yo yl yq yp yr ys)) := ⟨Rep.keep (Kep.of hbA) _ HSV9.out.1, Rep.keep (Kep.of hbA) _ HSV9.out.2⟩
    have hSV1 : (fun V => V.heap[w.heap.size]? = some (obR xk xb xn xt xo xl xq xp xr xs) ∧ V.heap[w.heap.size + 1]? = some (obR yk yb yn yt yo yl yq yp yr ys)) V1 := bxkeep hbA hSV9.1 hSV9.2
    clear hrA hbA
    go_wp2_with fail
    refine hK.out _ _ hSV1 (fun _ => ?_)
    clear hK K
    try simp only [Act.put, List.setIfInBounds_toArray, List.set_cons_zero, List.set_cons_succ]
    refine wpAnyH_ready (rs := [3]) (by kernel_rfl) (by simp) (AllReadyH.cons (o := ?o3z3g0) ?e3z3g0 (fun K hK => ?k3z3g0) AllReadyH.nil)
    case e3z3g0 => (simp only [List.getElem?_toArray, List.getElem?_cons_zero, List.getElem?_cons_succ]; rfl)
    go_simp
    (with_reducible refine (Ours_c HSV1.out.2 hwY).mono ?_)
    rintro e V2 ⟨oBk, oBb, oBn, oBt, oBo, oBl, oBq, oBp, oBr, oBs, rfl, hrB, hbB⟩
    have HRBV2 := Lib.hid hrB
    have HBV2 : Hid (Up w V2) := Up.be HBV1.out hbB
    have HSV2 : Hid (Rep (Pz w.heap.size) V2 X (c6 xk xb xn xt xo xl xq xp xr xs) ∧ Rep (Pz w.heap.size) V2 Y (c6 yk yb yn yt yo yl yq yp yr ys)) := ⟨Rep.keep (Kep.of hbB) _ HSV1.out.1, Rep.keep (Kep.of hbB) _ HSV1.out.2⟩
    have HRAV2 := Lib.hid (Rep.keep (Kep.of hbB) _ HRAV1.out)
    have hSV2 : (fun V => V.heap[w.heap.size]? = some (obR xk xb xn xt xo xl xq xp xr xs) ∧ V.heap[w.heap.size + 1]? = some (obR yk yb yn yt yo yl yq yp yr ys)) V2 := bxkeep hbB hSV1.1 hSV1.2
    clear hrB hbB
    go_wp2_with fail
    refine hK.out _ _ hSV2 (fun _ => ?_)
    clear hK K
    try simp only [Act.put, List.setIfInBounds_toArray, List.set_cons_zero, List.set_cons_succ]
    refine wpAnyH_ready (rs := [4]) (by kernel_rfl) (by simp) (AllReadyH.cons (o := ?o4z4g0) ?e4z4g0 (fun K hK => ?k4z4g0) AllReadyH.nil)
    case e4z4g0 => (simp only [List.getElem?_toArray, List.getElem?_cons_zero, List.getElem?_cons_succ]; rfl)
    go_simp
    have hcC := Same_c HRAV2.out HRBV2.out hwX6 hwY6
    try unfold SmQ at hcC
    (with_reducible refine hcC.mono ?_)
    clear hcC
    rintro e V3 ⟨rfl, hbC⟩
    have HBV3 : Hid (Up w V3) := Up.be HBV2.out hbC
    have HSV3 : Hid (Rep (Pz w.heap.size) V3 X (c6 xk xb xn xt xo xl xq xp xr xs) ∧ Rep (Pz w.heap.size) V3 Y (c6 yk yb yn yt yo yl yq yp yr ys)) := ⟨Rep.keep (Kep.of hbC) _ HSV2.out.1, Rep.keep (Kep.of hbC) _ HSV2.out.2⟩
    have HRAV3 := Lib.hid (Rep.keep (Kep.of hbC) _ HRAV2.out)
    have HRBV3 := Lib.hid (Rep.keep (Kep.of hbC) _ HRBV2.out)
    have hSV3 : (fun V => V.heap[w.heap.size]? = some (obR xk xb xn xt xo xl xq xp xr xs) ∧ V.heap[w.heap.size + 1]? = some (obR yk yb yn yt yo yl yq yp yr ys)) V3 := bxkeep hbC hSV2.1 hSV2.2
    clear hbC
    go_wp2_with fail
    refine hK.out _ _ hSV3 (fun _ => ?_)
    clear hK K
    try simp only [Act.put, List.setIfInBounds_toArray, List.set_cons_zero, List.set_cons_succ]
    refine wpAnyH_ready (rs := [7]) (by kernel_rfl) (by simp) (AllReadyH.cons (o := ?o7z7g0) ?e7z7g0 (fun K hK => ?k7z7g0) AllReadyH.nil)
    case e7z7g0 => (simp only [List.getElem?_toArray, List.getElem?_cons_zero, List.getElem?_cons_succ]; rfl)
    go_simp
    have hcD := RSame_c HSV3.out.1 HSV3.out.2 hwX6 hwY6
    try unfold SmQ at hcD
    (with_reducible refine hcD.mono ?_)
    clear hcD
    rintro e V4 ⟨rfl, hbD⟩
    have HBV4 : Hid (Up w V4) := Up.be HBV3.out hbD
    have HSV4 : Hid (Rep (Pz w.heap.size) V4 X (c6 xk xb xn xt xo xl xq xp xr xs) ∧ Rep (Pz w.heap.size) V4 Y (c6 yk yb yn yt yo yl yq yp yr ys)) := ⟨Rep.keep (Kep.of hbD) _ HSV3.out.1, Rep.keep (Kep.of hbD) _ HSV3.out.2⟩
    have hSV4 : (fun V => V.heap[w.heap.size]? = some (obR xk xb xn xt xo xl xq xp xr xs) ∧ V.heap[w.heap.size + 1]? = some (obR yk yb yn yt yo yl yq yp yr ys)) V4 := bxkeep hbD hSV3.1 hSV3.2
    clear hbD
    go_wp2_with fail
    refine hK.out _ _ hSV4 (fun _ => ?_)
    clear hK K
    try simp only [Act.put, List.setIfInBounds_toArray, List.set_cons_zero, List.set_cons_succ]
    refine wpAnyH_take (i := 8) (oi := ?o8g0) (v := ?v8g0) ?e8g0 ?a8g0 ?b8g0 ?c8g0 ?q8g0 (Or.inl ⟨?w8g0, ?h8g0⟩) ?s8g0 ?r8g0
    case e8g0 => (simp only [List.getElem?_toArray, List.getElem?_cons_zero, List.getElem?_cons_succ]; rfl)
    case a8g0 => kernel_rfl
    case b8g0 => kernel_rfl
    case c8g0 => kernel_rfl
    case q8g0 => exact fun _ _ _ h => h
    case w8g0 => rfl
    case s8g0 => assumption
    case h8g0 => (intro W hSw; obtain ⟨hSa, hSb⟩ := hSw; obtain ⟨a0, a1, a2, a3, a4, a5⟩ := cells6 hSa; obtain ⟨b0, b1, b2, b3, b4, b5⟩ := cells6 hSb; go_simp; try with_reducible rfl)
    try simp only [Act.put, List.setIfInBounds_toArray, List.set_cons_zero, List.set_cons_succ]
    try simp only [beq_self_eq_true]
    refine wpAnyH_take (i := 9) (oi := ?o9g0) (v := ?v9g0) ?e9g0 ?a9g0 ?b9g0 ?c9g0 ?q9g0 (Or.inl ⟨?w9g0, ?h9g0⟩) ?s9g0 ?r9g0
    case e9g0 => (simp only [List.getElem?_toArray, List.getElem?_cons_zero, List.getElem?_cons_succ]; rfl)
    case a9g0 => kernel_rfl
    case b9g0 => kernel_rfl
    case c9g0 => kernel_rfl
    case q9g0 => exact fun _ _ _ h => h
    case w9g0 => rfl
    case s9g0 => assumption
    case h9g0 => (intro W hSw; obtain ⟨hSa, hSb⟩ := hSw; obtain ⟨a0, a1, a2, a3, a4, a5⟩ := cells6 hSa; obtain ⟨b0, b1, b2, b3, b4, b5⟩ := cells6 hSb; go_simp; try with_reducible rfl)
    try simp only [Act.put, List.setIfInBounds_toArray, List.set_cons_zero, List.set_cons_succ]
    refine wpAnyH_take (i := 10) (oi := ?o10g0) (v := ?v10g0) ?e10g0 ?a10g0 ?b10g0 ?c10g0 ?q10g0 (Or.inl ⟨?w10g0, ?h10g0⟩) ?s10g0 ?r10g0
    case e10g0 => (simp only [List.getElem?_toArray, List.getElem?_cons_zero, List.getElem?_cons_succ]; rfl)
    case a10g0 => kernel_rfl
    case b10g0 => kernel_rfl
    case c10g0 => kernel_rfl
    case q10g0 => exact fun _ _ _ h => h
    case w10g0 => rfl
    case s10g0 => assumption
    case h10g0 => (intro W hSw; obtain ⟨hSa, hSb⟩ := hSw; obtain ⟨a0, a1, a2, a3, a4, a5⟩ := cells6 hSa; obtain ⟨b0, b1, b2, b3, b4, b5⟩ := cells6 hSb; go_simp; try with_reducible rfl)
    try simp only [Act.put, List.setIfInBounds_toArray, List.set_cons_zero, List.set_cons_succ]
    refine wpAnyH_take (i := 12) (oi := ?o12g0) (v := ?v12g0) ?e12g0 ?a12g0 ?b12g0 ?c12g0 ?q12g0 (Or.inl ⟨?w12g0, ?h12g0⟩) ?s12g0 ?r12g0
    case e12g0 => (simp only [List.getElem?_toArray, List.getElem?_cons_zero, List.getElem?_cons_succ]; rfl)
    case a12g0 => kernel_rfl
    case b12g0 => kernel_rfl
    case c12g0 => kernel_rfl
    case q12g0 => exact fun _ _ _ h => h
    case w12g0 => rfl
    case s12g0 => assumption
    case h12g0 => (intro W hSw; obtain ⟨hSa, hSb⟩ := hSw; obtain ⟨a0, a1, a2, a3, a4, a5⟩ := cells6 hSa; obtain ⟨b0, b1, b2, b3, b4, b5⟩ := cells6 hSb; go_simp; try with_reducible rfl)
    try simp only [Act.put, List.setIfInBounds_toArray, List.set_cons_zero, List.set_cons_succ]
    refine wpAnyH_ready (rs := [11]) (by kernel_rfl) (by simp) (AllReadyH.cons (o := ?o11z11g0) ?e11z11g0 (fun K hK => ?k11z11g0) AllReadyH.nil)
    case e11z11g0 => (simp only [List.getElem?_toArray, List.getElem?_cons_zero, List.getElem?_cons_succ]; rfl)
    go_simp
    (with_reducible refine (Ours_c HSV4.out.1 hwX).mono ?_)
    rintro e V5 ⟨oEk, oEb, oEn, oEt, oEo, oEl, oEq, oEp, oEr, oEs, rfl, hrE, hbE⟩
    have HREV5 := Lib.hid hrE
    have HBV5 : Hid (Up w V5) := Up.be HBV4.out hbE
    have HSV5 : Hid (Rep (Pz w.heap.size) V5 X (c6 xk xb xn xt xo xl xq xp xr xs) ∧ Rep (Pz w.heap.size) V5 Y (c6 yk yb yn yt yo yl yq yp yr ys)) := ⟨Rep.keep (Kep.of hbE) _ HSV4.out.1, Rep.keep (Kep.of hbE) _ HSV4.out.2⟩
    have hSV5 : (fun V => V.heap[w.heap.size]? = some (obR xk xb xn xt xo xl xq xp xr xs) ∧ V.heap[w.heap.size + 1]? = some (obR yk yb yn yt yo yl yq yp yr ys)) V5 := bxkeep hbE hSV4.1 hSV4.2
    clear hrE hbE
    go_wp2_with fail
    refine hK.out _ _ hSV5 (fun _ => ?_)
    clear hK K
    try simp only [Act.put, List.setIfInBounds_toArray, List.set_cons_zero, List.set_cons_succ]
    refine wpAnyH_ready (rs := [13]) (by kernel_rfl) (by simp) (AllReadyH.cons (o := ?o13z13g0) ?e13z13g0 (fun K hK => ?k13z13g0) AllReadyH.nil)
    case e13z13g0 => (simp only [List.getElem?_toArray, List.getElem?_cons_zero, List.getElem?_cons_succ]; rfl)
    go_simp
    (with_reducible refine (Ours_c HSV5.out.1 hwX).mono ?_)
    rintro e V6 ⟨oFk, oFb, oFn, oFt, oFo, oFl, oFq, oFp, oFr, oFs, rfl, hrF, hbF⟩
    have HRFV6 := Lib.hid hrF
    have HBV6 : Hid (Up w V6) := Up.be HBV5.out hbF
    have HSV6 : Hid (Rep (Pz w.heap.size) V6 X (c6 xk xb xn xt xo xl xq xp xr xs) ∧ Rep (Pz w.heap.size) V6 Y (c6 yk yb yn yt yo yl yq yp yr ys)) := ⟨Rep.keep (Kep.of hbF) _ HSV5.out.1, Rep.keep (Kep.of hbF) _ HSV5.out.2⟩
    have HREV6 := Lib.hid (Rep.keep (Kep.of hbF) _ HREV5.out)
    have hSV6 : (fun V => V.heap[w.heap.size]? = some (obR xk xb xn xt xo xl xq xp xr xs) ∧ V.heap[w.heap.size + 1]? = some (obR yk yb yn yt yo yl yq yp yr ys)) V6 := bxkeep hbF hSV5.1 hSV5.2
    clear hrF hbF
    go_wp2_with fail
    refine hK.out _ _ hSV6 (fun _ => ?_)
    clear hK K
    try simp only [Act.put, List.setIfInBounds_toArray, List.set_cons_zero, List.set_cons_succ]
    refine wpAnyH_ready (rs := [14]) (by kernel_rfl) (by simp) (AllReadyH.cons (o := ?o14z14g0) ?e14z14g0 (fun K hK => ?k14z14g0) AllReadyH.nil)
    case e14z14g0 => (simp only [List.getElem?_toArray, List.getElem?_cons_zero, List.getElem?_cons_succ]; rfl)
    go_simp
    have hcG := Same_c HREV6.out HRFV6.out hwX6 hwX6
    unfold SmQ at hcG
    rw [smJ_refl] at hcG
    (with_reducible refine hcG.mono ?_)
    clear hcG
    rintro e V7 ⟨rfl, hbG⟩
    have HBV7 : Hid (Up w V7) := Up.be HBV6.out hbG
    have HSV7 : Hid (Rep (Pz w.heap.size) V7 X (c6 xk xb xn xt xo xl xq xp xr xs) ∧ Rep (Pz w.heap.size) V7 Y (c6 yk yb yn yt yo yl yq yp yr ys)) := ⟨Rep.keep (Kep.of hbG) _ HSV6.out.1, Rep.keep (Kep.of hbG) _ HSV6.out.2⟩
    have HREV7 := Lib.hid (Rep.keep (Kep.of hbG) _ HREV6.out)
    have HRFV7 := Lib.hid (Rep.keep (Kep.of hbG) _ HRFV6.out)
    have hSV7 : (fun V => V.heap[w.heap.size]? = some (obR xk xb xn xt xo xl xq xp xr xs) ∧ V.heap[w.heap.size + 1]? = some (obR yk yb yn yt yo yl yq yp yr ys)) V7 := bxkeep hbG hSV6.1 hSV6.2
    clear hbG
    go_wp2_with fail
    refine hK.out _ _ hSV7 (fun _ => ?_)
    clear hK K
    try simp only [Act.put, List.setIfInBounds_toArray, List.set_cons_zero, List.set_cons_succ]
    refine wpAnyH_take (i := 15) (oi := ?o15g0) (v := ?v15g0) ?e15g0 ?a15g0 ?b15g0 ?c15g0 ?q15g0 (Or.inl ⟨?w15g0, ?h15g0⟩) ?s15g0 ?r15g0
    case e15g0 => (simp only [List.getElem?_toArray, List.getElem?_cons_zero, List.getElem?_cons_succ]; rfl)
    case a15g0 => kernel_rfl
    case b15g0 => kernel_rfl
    case c15g0 => kernel_rfl
    case q15g0 => exact fun _ _ _ h => h
    case w15g0 => rfl
    case s15g0 => assumption
    case h15g0 => (intro W hSw; obtain ⟨hSa, hSb⟩ := hSw; obtain ⟨a0, a1, a2, a3, a4, a5⟩ := cells6 hSa; obtain ⟨b0, b1, b2, b3, b4, b5⟩ := cells6 hSb; go_simp; try with_reducible rfl)
    try simp only [Act.put, List.setIfInBounds_toArray, List.set_cons_zero, List.set_cons_succ]
    refine wpAnyH_take (i := 16) (oi := ?o16g0) (v := ?v16g0) ?e16g0 ?a16g0 ?b16g0 ?c16g0 ?q16g0 (Or.inl ⟨?w16g0, ?h16g0⟩) ?s16g0 ?r16g0
    case e16g0 => (simp only [List.getElem?_toArray, List.getElem?_cons_zero, List.getElem?_cons_succ]; rfl)
    case a16g0 => kernel_rfl
    case b16g0 => kernel_rfl
    case c16g0 => kernel_rfl
    case q16g0 => exact fun _ _ _ h => h
    case w16g0 => rfl
    case s16g0 => assumption
    case h16g0 => (intro W hSw; obtain ⟨hSa, hSb⟩ := hSw; obtain ⟨a0, a1, a2, a3, a4, a5⟩ := cells6 hSa; obtain ⟨b0, b1, b2, b3, b4, b5⟩ := cells6 hSb; go_simp; try with_reducible rfl)
    try simp only [Act.put, List.setIfInBounds_toArray, List.set_cons_zero, List.set_cons_succ]
    refine wpAnyH_take (i := 17) (oi := ?o17g0) (v := ?v17g0) ?e17g0 ?a17g0 ?b17g0 ?c17g0 ?q17g0 (Or.inl ⟨?w17g0, ?h17g0⟩) ?s17g0 ?r17g0
    case e17g0 => (simp only [List.getElem?_toArray, List.getElem?_cons_zero, List.getElem?_cons_succ]; rfl)
    case a17g0 => kernel_rfl
    case b17g0 => kernel_rfl
    case c17g0 => kernel_rfl
    case q17g0 => exact fun _ _ _ h => h
    case w17g0 => rfl
    case s17g0 => assumption
    case h17g0 => (intro W hSw; obtain ⟨hSa, hSb⟩ := hSw; obtain ⟨a0, a1, a2, a3, a4, a5⟩ := cells6 hSa; obtain ⟨b0, b1, b2, b3, b4, b5⟩ := cells6 hSb; go_simp; try with_reducible rfl)
    try simp only [Act.put, List.setIfInBounds_toArray, List.set_cons_zero, List.set_cons_succ]
    refine wpAnyH_take (i := 20) (oi := ?o20g0) (v := ?v20g0) ?e20g0 ?a20g0 ?b20g0 ?c20g0 ?q20g0 (Or.inl ⟨?w20g0, ?h20g0⟩) ?s20g0 ?r20g0
    case e20g0 => (simp only [List.getElem?_toArray, List.getElem?_cons_zero, List.getElem?_cons_succ]; rfl)
    case a20g0 => kernel_rfl
    case b20g0 => kernel_rfl
    case c20g0 => kernel_rfl
    case q20g0 => exact fun _ _ _ h => h
    case w20g0 => rfl
    case s20g0 => assumption
    case h20g0 => (intro W hSw; obtain ⟨hSa, hSb⟩ := hSw; obtain ⟨a0, a1, a2, a3, a4, a5⟩ := cells6 hSa; obtain ⟨b0, b1, b2, b3, b4, b5⟩ := cells6 hSb; go_simp; try with_reducible rfl)
    try simp only [Act.put, List.setIfInBounds_toArray, List.set_cons_zero, List.set_cons_succ]
    refine wpAnyH_ready (rs := [18]) (by kernel_rfl) (by simp) (AllReadyH.cons (o := ?o18z18g0) ?e18z18g0 (fun K hK => ?k18z18g0) AllReadyH.nil)
    case e18z18g0 => (simp only [List.getElem?_toArray, List.getElem?_cons_zero, List.getElem?_cons_succ]; rfl)
    go_simp
    (with_reducible refine (Ours_c HSV7.out.1 hwX).mono ?_)
    rintro e V8 ⟨oHk, oHb, oHn, oHt, oHo, oHl, oHq, oHp, oHr, oHs, rfl, hrH, hbH⟩
    have HRHV8 := Lib.hid hrH
    have HBV8 : Hid (Up w V8) := Up.be HBV7.out hbH
    have HSV8 : Hid (Rep (Pz w.heap.size) V8 X (c6 xk xb xn xt xo xl xq xp xr xs) ∧ Rep (Pz w.heap.size) V8 Y (c6 yk yb yn yt yo yl yq yp yr ys)) := ⟨Rep.keep (Kep.of hbH) _ HSV7.out.1, Rep.keep (Kep.of hbH) _ HSV7.out.2⟩
    have hSV8 : (fun V => V.heap[w.heap.size]? = some (obR xk xb xn xt xo xl xq xp xr xs) ∧ V.heap[w.heap.size + 1]? = some (obR yk yb yn yt yo yl yq yp yr ys)) V8 := bxkeep hbH hSV7.1 hSV7.2
    clear hrH hbH
    go_wp2_with fail
    refine hK.out _ _ hSV8 (fun _ => ?_)
    clear hK K
    try simp only [Act.put, List.setIfInBounds_toArray, List.set_cons_zero, List.set_cons_succ]
    refine wpAnyH_ready (rs := [19]) (by kernel_rfl) (by simp) (AllReadyH.cons (o := ?o19z19g0) ?e19z19g0 (fun K hK => ?k19z19g0) AllReadyH.nil)
    case e19z19g0 => (simp only [List.getElem?_toArray, List.getElem?_cons_zero, List.getElem?_cons_succ]; rfl)
    go_simp
    have hcJ := Depth_c HRHV8.out hwX6 hdX
    try unfold DpQ at hcJ
    (with_reducible refine hcJ.mono ?_)
    clear hcJ
    rintro e V9 ⟨rfl, hbJ⟩
    have HBV9 : Hid (Up w V9) := Up.be HBV8.out hbJ
    have HSV9 : Hid (Rep (Pz w.heap.size) V9 X (c6 xk xb xn xt xo xl xq xp xr xs) ∧ Rep (Pz w.heap.size) V9 Y (c6 yk yb yn yt yo yl yq yp yr ys)) := ⟨Rep.keep (Kep.of hbJ) _ HSV8.out.1, Rep.keep (Kep.of hbJ) _ HSV8.out.2⟩
    have HRHV9 := Lib.hid (Rep.keep (Kep.of hbJ) _ HRHV8.out)
    have hSV9 : (fun V => V.heap[w.heap.size]? = some (obR xk xb xn xt xo xl xq xp xr xs) ∧ V.heap[w.heap.size + 1]? = some (obR yk yb yn yt yo yl yq yp yr ys)) V9 := bxkeep hbJ hSV8.1 hSV8.2
    clear hbJ
    go_wp2_with fail
    refine hK.out _ _ hSV9 (fun _ => ?_)
    clear hK K
    try simp only [Act.put, List.setIfInBounds_toArray, List.set_cons_zero, List.set_cons_succ]
    refine wpAnyH_ready (rs := [21]) (by kernel_rfl) (by simp) (AllReadyH.cons (o := ?o21z21g0) ?e21z21g0 (fun K hK => ?k21z21g0) AllReadyH.nil)
    case e21z21g0 => (simp only [List.getElem?_toArray, List.getElem?_cons_zero, List.getElem?_cons_succ]; rfl)
    go_simp
    have hcK := RDepth_c HSV9.out.1 hwX6 hdX
    try unfold DpQ at hcK
    (with_reducible refine hcK.mono ?_)
    clear hcK
    rintro e V10 ⟨rfl, hbK⟩
    have HBV10 : Hid (Up w V10) := Up.be HBV9.out hbK
    have HSV10 : Hid (Rep (Pz w.heap.size) V10 X (c6 xk xb xn xt xo xl xq xp xr xs) ∧ Rep (Pz w.heap.size) V10 Y (c6 yk yb yn yt yo yl yq yp yr ys)) := ⟨Rep.keep (Kep.of hbK) _ HSV9.out.1, Rep.keep (Kep.of hbK) _ HSV9.out.2⟩
    have hSV10 : (fun V => V.heap[w.heap.size]? = some (obR xk xb xn xt xo xl xq xp xr xs) ∧ V.heap[w.heap.size + 1]? = some (obR yk yb yn yt yo yl yq yp yr ys)) V10 := bxkeep hbK hSV9.1 hSV9.2
    clear hbK
    go_wp2_with fail
    refine hK.out _ _ hSV10 (fun _ => ?_)
    clear hK K
    try simp only [Act.put, List.setIfInBounds_toArray, List.set_cons_zero, List.set_cons_succ]
    refine wpAnyH_take (i := 22) (oi := ?o22g0) (v := ?v22g0) ?e22g0 ?a22g0 ?b22g0 ?c22g0 ?q22g0 (Or.inl ⟨?w22g0, ?h22g0⟩) ?s22g0 ?r22g0
    case e22g0 => (simp only [List.getElem?_toArray, List.getElem?_cons_zero, List.getElem?_cons_succ]; rfl)
    case a22g0 => kernel_rfl
    case b22g0 => kernel_rfl
    case c22g0 => kernel_rfl
    case q22g0 => exact fun _ _ _ h => h
    case w22g0 => rfl
    case s22g0 => assumption
    case h22g0 => (intro W hSw; obtain ⟨hSa, hSb⟩ := hSw; obtain ⟨a0, a1, a2, a3, a4, a5⟩ := cells6 hSa; obtain ⟨b0, b1, b2, b3, b4, b5⟩ := cells6 hSb; go_simp; try with_reducible rfl)
    try simp only [Act.put, List.setIfInBounds_toArray, List.set_cons_zero, List.set_cons_succ]
    try simp only [beq_self_eq_true]
    refine wpAnyH_take (i := 23) (oi := ?o23g0) (v := ?v23g0) ?e23g0 ?a23g0 ?b23g0 ?c23g0 ?q23g0 (Or.inl ⟨?w23g0, ?h23g0⟩) ?s23g0 ?r23g0
    case e23g0 => (simp only [List.getElem?_toArray, List.getElem?_cons_zero, List.getElem?_cons_succ]; rfl)
    case a23g0 => kernel_rfl
    case b23g0 => kernel_rfl
    case c23g0 => kernel_rfl
    case q23g0 => exact fun _ _ _ h => h
    case w23g0 => rfl
    case s23g0 => assumption
    case h23g0 => (intro W hSw; obtain ⟨hSa, hSb⟩ := hSw; obtain ⟨a0, a1, a2, a3, a4, a5⟩ := cells6 hSa; obtain ⟨b0, b1, b2, b3, b4, b5⟩ := cells6 hSb; go_simp; try with_reducible rfl)
    try simp only [Act.put, List.setIfInBounds_toArray, List.set_cons_zero, List.set_cons_succ]
    refine wpAnyH_take (i := 24) (oi := ?o24g0) (v := ?v24g0) ?e24g0 ?a24g0 ?b24g0 ?c24g0 ?q24g0 (Or.inl ⟨?w24g0, ?h24g0⟩) ?s24g0 ?r24g0
    case e24g0 => (simp only [List.getElem?_toArray, List.getElem?_cons_zero, List.getElem?_cons_succ]; rfl)
    case a24g0 => kernel_rfl
    case b24g0 => kernel_rfl
    case c24g0 => kernel_rfl
    case q24g0 => exact fun _ _ _ h => h
    case w24g0 => rfl
    case s24g0 => assumption
    case h24g0 => (intro W hSw; obtain ⟨hSa, hSb⟩ := hSw; obtain ⟨a0, a1, a2, a3, a4, a5⟩ := cells6 hSa; obtain ⟨b0, b1, b2, b3, b4, b5⟩ := cells6 hSb; go_simp; try with_reducible rfl)
    try simp only [Act.put, List.setIfInBounds_toArray, List.set_cons_zero, List.set_cons_succ]
    refine wpAnyH_ready (rs := [25]) (by kernel_rfl) (by simp) (AllReadyH.cons (o := ?o25z25g0) ?e25z25g0 (fun K hK => ?k25z25g0) AllReadyH.nil)
    case e25z25g0 => (simp only [List.getElem?_toArray, List.getElem?_cons_zero, List.getElem?_cons_succ]; rfl)
    go_simp
    have hcL := awake_c _ (Env.go HE.out HBV10.out.below)
    try unfold SmQ at hcL
    (with_reducible refine hcL.mono ?_)
    clear hcL
    rintro e V11 ⟨rfl, hbL⟩
    have HBV11 : Hid (Up w V11) := Up.be HBV10.out hbL
    have HSV11 : Hid (Rep (Pz w.heap.size) V11 X (c6 xk xb xn xt xo xl xq xp xr xs) ∧ Rep (Pz w.heap.size) V11 Y (c6 yk yb yn yt yo yl yq yp yr ys)) := ⟨Rep.keep (Kep.of hbL) _ HSV10.out.1, Rep.keep (Kep.of hbL) _ HSV10.out.2⟩
    have hSV11 : (fun V => V.heap[w.heap.size]? = some (obR xk xb xn xt xo xl xq xp xr xs) ∧ V.heap[w.heap.size + 1]? = some (obR yk yb yn yt yo yl yq yp yr ys)) V11 := bxkeep hbL hSV10.1 hSV10.2
    clear hbL
    go_wp2_with fail
    refine hK.out _ _ hSV11 (fun _ => ?_)
    clear hK K
    try simp only [Act.put, List.setIfInBounds_toArray, List.set_cons_zero, List.set_cons_succ]
    refine wpAnyH_take (i := 26) (oi := ?o26g0) (v := ?v26g0) ?e26g0 ?a26g0 ?b26g0 ?c26g0 ?q26g0 (Or.inl ⟨?w26g0, ?h26g0⟩) ?s26g0 ?r26g0
    case e26g0 => (simp only [List.getElem?_toArray, List.getElem?_cons_zero, List.getElem?_cons_succ]; rfl)
    case a26g0 => kernel_rfl
    case b26g0 => kernel_rfl
    case c26g0 => kernel_rfl
    case q26g0 => exact fun _ _ _ h => h
    case w26g0 => rfl
    case s26g0 => assumption
    case h26g0 => (intro W hSw; obtain ⟨hSa, hSb⟩ := hSw; obtain ⟨a0, a1, a2, a3, a4, a5⟩ := cells6 hSa; obtain ⟨b0, b1, b2, b3, b4, b5⟩ := cells6 hSb; go_simp; try with_reducible rfl)
    try simp only [Act.put, List.setIfInBounds_toArray, List.set_cons_zero, List.set_cons_succ]
    refine wpAnyH_take (i := 27) (oi := ?o27g0) (v := ?v27g0) ?e27g0 ?a27g0 ?b27g0 ?c27g0 ?q27g0 (Or.inl ⟨?w27g0, ?h27g0⟩) ?s27g0 ?r27g0
    case e27g0 => (simp only [List.getElem?_toArray, List.getElem?_cons_zero, List.getElem?_cons_succ]; rfl)
    case a27g0 => kernel_rfl
    case b27g0 => kernel_rfl
    case c27g0 => kernel_rfl
    case q27g0 => exact fun _ _ _ h => h
    case w27g0 => rfl
    case s27g0 => assumption
    case h27g0 => (intro W hSw; obtain ⟨hSa, hSb⟩ := hSw; obtain ⟨a0, a1, a2, a3, a4, a5⟩ := cells6 hSa; obtain ⟨b0, b1, b2, b3, b4, b5⟩ := cells6 hSb; go_simp; try with_reducible rfl)
    try simp only [Act.put, List.setIfInBounds_toArray, List.set_cons_zero, List.set_cons_succ]
    refine wpAnyH_done (by kernel_rfl) ?_ _
    go_wp2
    go_ret
    exact ⟨rfl, HBV11.out.below⟩
  · skip
    clear a0 a1 a2 a3 a4 a5 b0 b1 b2 b3 b4 b5 c0 c1 c2 c3 c4 c5 e0 e1 e2 e3 e4 e5 f0 f1 f2 f3 f4 f5 g0 g1 g2 g3 g4 g5
    obtain ⟨wA, hwA⟩ : ∃ wA, wA = ((((((w2.setCell ⟨w.heap.size, 0, none⟩ (.int .i64 xk)).setCell ⟨w.heap.size, 1, none⟩ (.bool xb)).setCell ⟨w.heap.size, 2, none⟩ (.int .i64 xn)).setCell ⟨w.heap.size, 3, none⟩ (.string xt)).setCell ⟨w.heap.size, 4, none⟩ (.slice xo xl xq)).setCell ⟨w.heap.size, 5, none⟩ (.slice xp xr xs)) := ⟨_, rfl⟩
    have HKA3 : Hid (wA.heap[w.heap.size]? = some (obR xk xb xn xt xo xl xq xp xr xs)) := by rw [hwA]; exact Lib.hid (set6 HKA2.out _ _ _ _ _ _)
    have HGA : Hid (Grw (fun j => j = w.heap.size) w2 wA) := by rw [hwA]; exact Lib.hid (gr_set6 w2 w.heap.size _ _ _ _ _ _)
    have HKB3 := Lib.hid ((HGA.out.block (Array.getElem?_eq_some_iff.1 HKB2.out).1 (by omega)).trans HKB2.out)
    rw [← hwA]
    clear hwA
    obtain ⟨V0, hV0⟩ : ∃ V0, V0 = ((((((wA.setCell ⟨w.heap.size + 1, 0, none⟩ (.int .i64 yk)).setCell ⟨w.heap.size + 1, 1, none⟩ (.bool yb)).setCell ⟨w.heap.size + 1, 2, none⟩ (.int .i64 yn)).setCell ⟨w.heap.size + 1, 3, none⟩ (.string yt)).setCell ⟨w.heap.size + 1, 4, none⟩ (.slice yo yl yq)).setCell ⟨w.heap.size + 1, 5, none⟩ (.slice yp yr ys)) := ⟨_, rfl⟩
    have HKB4 : Hid (V0.heap[w.heap.size + 1]? = some (obR yk yb yn yt yo yl yq yp yr ys)) := by rw [hV0]; exact Lib.hid (set6 HKB3.out _ _ _ _ _ _)
    have HGB : Hid (Grw (fun j => j = w.heap.size + 1) wA V0) := by rw [hV0]; exact Lib.hid (gr_set6 wA (w.heap.size + 1) _ _ _ _ _ _)
    have HKA4 := Lib.hid ((HGB.out.block (Array.getElem?_eq_some_iff.1 HKA3.out).1 (by omega)).trans HKA3.out)
    rw [← hV0]
    clear hV0
    have HBV0 : Hid (Up w V0) := Up.one (Up.one (Up.be (Up.be (Grw.of_below HB0.out (fun k h _ => h)) HBW1.out) HBW2.out) HGA.out (Nat.le_refl _)) HGB.out (by omega)
    have kA : Kep (Pz w.heap.size) w2 V0 := ⟨Nat.le_trans HGA.out.size HGB.out.size, fun k hk hl => (HGB.out.block (Nat.lt_of_lt_of_le hl HGA.out.size) (by rcases hk with h | h <;> omega)).trans (HGA.out.block hl (by rcases hk with h | h <;> omega))⟩
    have hs0 : W0.heap.size ≤ w1.heap.size := HBW1.out.size
    have HSV0 : Hid (Rep (Pz w.heap.size) V0 X (c6 xk xb xn xt xo xl xq xp xr xs) ∧ Rep (Pz w.heap.size) V0 Y (c6 yk yb yn yt yo yl yq yp yr ys)) := ⟨Rep.keep kA _ (Rep.keep (Kep.of HBW2.out) _ (Rep.mono (fun k hk _ => by
        rcases hk with h | h
        · exact .inl h
        · exact .inr (by have h : W0.heap.size ≤ k := h; omega)) _ HRX.out)), Rep.keep kA _ (Rep.mono (fun k hk _ => by
        rcases hk with h | h
        · exact .inl h
        · exact .inr (by have h : w1.heap.size ≤ k := h; omega)) _ HRY.out)⟩
    have hSV0 : (fun V => V.heap[w.heap.size]? = some (obR xk xb xn xt xo xl xq xp xr xs) ∧ V.heap[w.heap.size + 1]? = some (obR yk yb yn yt yo yl yq yp yr ys)) V0 := ⟨HKA4.out, HKB4.out⟩
    have hS0 : (fun V => V.heap[w.heap.size]? = some (obR xk xb xn xt xo xl xq xp xr xs) ∧ V.heap[w.heap.size + 1]? = some (obR yk yb yn yt yo yl yq yp yr ys)) V0.drew := ⟨HKA4.out, HKB4.out⟩
    obtain ⟨V9, hV9⟩ : ∃ V9, V9 = V0.drew := ⟨_, rfl⟩
    have HBV9 : Hid (Up w V9) := by rw [hV9]; exact Lib.hid (Up.be HBV0.out ((Below.refl _ _).drew))
    have HSV9 : Hid (Rep (Pz w.heap.size) V9 X (c6 xk xb xn xt xo xl xq xp xr xs) ∧ Rep (Pz w.heap.size) V9 Y (c6 yk yb yn yt yo yl yq yp yr ys)) := by rw [hV9]; exact Lib.hid ⟨Rep.keep (Kep.of ((Below.refl _ _).drew)) _ HSV0.out.1, Rep.keep (Kep.of ((Below.refl _ _).drew)) _ HSV0.out.2⟩
    have hSV9 : (fun V => V.heap[w.heap.size]? = some (obR xk xb xn xt xo xl xq xp xr xs) ∧ V.heap[w.heap.size + 1]? = some (obR yk yb yn yt yo yl yq yp yr ys)) V9 := by rw [hV9]; exact hS0
    clear hSV0 HSV0 HBV0 HKA4 HKB4
    clear HRX HRY HKA1 HKB1 HKA2 HKB2 HKA3 HKB3 HGA HGB HCA HCB HBW1 HBW2 kA hs0
    go_upto_region 2 with (fail)
    refine wp_region_held_drew (S := (fun V => V.heap[w.heap.size]? = some (obR xk xb xn xt xo xl xq xp xr xs) ∧ V.heap[w.heap.size + 1]? = some (obR yk yb yn yt yo yl yq yp yr ys))) (by kernel_rfl) hS0 (fun hHeld => ?_)
    rw [← hV9] at hHeld ⊢
    clear hV9 hS0 hHeld
    refine wpAnyH_take (i := 0) (oi := ?o0g1) (v := ?v0g1) ?e0g1 ?a0g1 ?b0g1 ?c0g1 ?q0g1 (Or.inl ⟨?w0g1, ?h0g1⟩) ?s0g1 ?r0g1
    case e0g1 => (simp only [List.getElem?_toArray, List.getElem?_cons_zero, List.getElem?_cons_succ]; rfl)
    case a0g1 => kernel_rfl
    case b0g1 => kernel_rfl
    case c0g1 => kernel_rfl
    case q0g1 => exact fun _ _ _ h => h
    case w0g1 => rfl
    case s0g1 => assumption
    case h0g1 => (intro W hSw; obtain ⟨hSa, hSb⟩ := hSw; obtain ⟨a0, a1, a2, a3, a4, a5⟩ := cells6 hSa; obtain ⟨b0, b1, b2, b3, b4, b5⟩ := cells6 hSb; go_simp; try with_reducible rfl)
    try simp only [Act.put, List.setIfInBounds_toArray, List.set_cons_zero, List.set_cons_succ]
    refine wpAnyH_take (i := 2) (oi := ?o2g1) (v := ?v2g1) ?e2g1 ?a2g1 ?b2g1 ?c2g1 ?q2g1 (Or.inl ⟨?w2g1, ?h2g1⟩) ?s2g1 ?r2g1
    case e2g1 => (simp only [List.getElem?_toArray, List.getElem?_cons_zero, List.getElem?_cons_succ]; rfl)
    case a2g1 => kernel_rfl
    case b2g1 => kernel_rfl
    case c2g1 => kernel_rfl
    case q2g1 => exact fun _ _ _ h => h
    case w2g1 => rfl
    case s2g1 => assumption
    case h2g1 => (intro W hSw; obtain ⟨hSa, hSb⟩ := hSw; obtain ⟨a0, a1, a2, a3, a4, a5⟩ := cells6 hSa; obtain ⟨b0, b1, b2, b3, b4, b5⟩ := cells6 hSb; go_simp; try with_reducible rfl)
    try simp only [Act.put, List.setIfInBounds_toArray, List.set_cons_zero, List.set_cons_succ]
    refine wpAnyH_take (i := 5) (oi := ?o5g1) (v := ?v5g1) ?e5g1 ?a5g1 ?b5g1 ?c5g1 ?q5g1 (Or.inl ⟨?w5g1, ?h5g1⟩) ?s5g1 ?r5g1
    case e5g1 => (simp only [List.getElem?_toArray, List.getElem?_cons_zero, List.getElem?_cons_succ]; rfl)
    case a5g1 => kernel_rfl
    case b5g1 => kernel_rfl
    case c5g1 => kernel_rfl
    case q5g1 => exact fun _ _ _ h => h
    case w5g1 => rfl
    case s5g1 => assumption
    case h5g1 => (intro W hSw; obtain ⟨hSa, hSb⟩ := hSw; obtain ⟨a0, a1, a2, a3, a4, a5⟩ := cells6 hSa; obtain ⟨b0, b1, b2, b3, b4, b5⟩ := cells6 hSb; go_simp; try with_reducible rfl)
    try simp only [Act.put, List.setIfInBounds_toArray, List.set_cons_zero, List.set_cons_succ]
    refine wpAnyH_take (i := 6) (oi := ?o6g1) (v := ?v6g1) ?e6g1 ?a6g1 ?b6g1 ?c6g1 ?q6g1 (Or.inl ⟨?w6g1, ?h6g1⟩) ?s6g1 ?r6g1
    case e6g1 => (simp only [List.getElem?_toArray, List.getElem?_cons_zero, List.getElem?_cons_succ]; rfl)
    case a6g1 => kernel_rfl
    case b6g1 => kernel_rfl
    case c6g1 => kernel_rfl
    case q6g1 => exact fun _ _ _ h => h
    case w6g1 => rfl
    case s6g1 => assumption
    case h6g1 => (intro W hSw; obtain ⟨hSa, hSb⟩ := hSw; obtain ⟨a0, a1, a2, a3, a4, a5⟩ := cells6 hSa; obtain ⟨b0, b1, b2, b3, b4, b5⟩ := cells6 hSb; go_simp; try with_reducible rfl)
    try simp only [Act.put, List.setIfInBounds_toArray, List.set_cons_zero, List.set_cons_succ]
    refine wpAnyH_ready (rs := [1]) (by kernel_rfl) (by simp) (AllReadyH.cons (o := ?o1z1g1) ?e1z1g1 (fun K hK => ?k1z1g1) AllReadyH.nil)
    case e1z1g1 => (simp only [List.getElem?_toArray, List.getElem?_cons_zero, List.getElem?_cons_succ]; rfl)
    go_simp
    (with_reducible refine (Ours_c HSV9.out.1 hwX).mono ?_)
    rintro e V1 ⟨oAk, oAb, oAn, oAt, oAo, oAl, oAq, oAp, oAr, oAs, rfl, hrA, hbA⟩
    have HRAV1 := Lib.hid hrA
    have HBV1 : Hid (Up w V1) := Up.be HBV9.out hbA
    have HSV1 : Hid (Rep (Pz w.heap.size) V1 X (c6 xk xb xn xt xo xl xq xp xr xs) ∧ Rep (Pz w.heap.size) V1 Y (c6 yk yb yn yt yo yl yq yp yr ys)) := ⟨Rep.keep (Kep.of hbA) _ HSV9.out.1, Rep.keep (Kep.of hbA) _ HSV9.out.2⟩
    have hSV1 : (fun V => V.heap[w.heap.size]? = some (obR xk xb xn xt xo xl xq xp xr xs) ∧ V.heap[w.heap.size + 1]? = some (obR yk yb yn yt yo yl yq yp yr ys)) V1 := bxkeep hbA hSV9.1 hSV9.2
    clear hrA hbA
    go_wp2_with fail
    refine hK.out _ _ hSV1 (fun _ => ?_)
    clear hK K
    try simp only [Act.put, List.setIfInBounds_toArray, List.set_cons_zero, List.set_cons_succ]
    refine wpAnyH_ready (rs := [3]) (by kernel_rfl) (by simp) (AllReadyH.cons (o := ?o3z3g1) ?e3z3g1 (fun K hK => ?k3z3g1) AllReadyH.nil)
    case e3z3g1 => (simp only [List.getElem?_toArray, List.getElem?_cons_zero, List.getElem?_cons_succ]; rfl)
    go_simp
    (with_reducible refine (Ours_c HSV1.out.2 hwY).mono ?_)
    rintro e V2 ⟨oBk, oBb, oBn, oBt, oBo, oBl, oBq, oBp, oBr, oBs, rfl, hrB, hbB⟩
    have HRBV2 := Lib.hid hrB
    have HBV2 : Hid (Up w V2) := Up.be HBV1.out hbB
    have HSV2 : Hid (Rep (Pz w.heap.size) V2 X (c6 xk xb xn xt xo xl xq xp xr xs) ∧ Rep (Pz w.heap.size) V2 Y (c6 yk yb yn yt yo yl yq yp yr ys)) := ⟨Rep.keep (Kep.of hbB) _ HSV1.out.1, Rep.keep (Kep.of hbB) _ HSV1.out.2⟩
    have HRAV2 := Lib.hid (Rep.keep (Kep.of hbB) _ HRAV1.out)
    have hSV2 : (fun V => V.heap[w.heap.size]? = some (obR xk xb xn xt xo xl xq xp xr xs) ∧ V.heap[w.heap.size + 1]? = some (obR yk yb yn yt yo yl yq yp yr ys)) V2 := bxkeep hbB hSV1.1 hSV1.2
    clear hrB hbB
    go_wp2_with fail
    refine hK.out _ _ hSV2 (fun _ => ?_)
    clear hK K
    try simp only [Act.put, List.setIfInBounds_toArray, List.set_cons_zero, List.set_cons_succ]
    refine wpAnyH_ready (rs := [4]) (by kernel_rfl) (by simp) (AllReadyH.cons (o := ?o4z4g1) ?e4z4g1 (fun K hK => ?k4z4g1) AllReadyH.nil)
    case e4z4g1 => (simp only [List.getElem?_toArray, List.getElem?_cons_zero, List.getElem?_cons_succ]; rfl)
    go_simp
    have hcC := Same_c HRAV2.out HRBV2.out hwX6 hwY6
    try unfold SmQ at hcC
    (with_reducible refine hcC.mono ?_)
    clear hcC
    rintro e V3 ⟨rfl, hbC⟩
    have HBV3 : Hid (Up w V3) := Up.be HBV2.out hbC
    have HSV3 : Hid (Rep (Pz w.heap.size) V3 X (c6 xk xb xn xt xo xl xq xp xr xs) ∧ Rep (Pz w.heap.size) V3 Y (c6 yk yb yn yt yo yl yq yp yr ys)) := ⟨Rep.keep (Kep.of hbC) _ HSV2.out.1, Rep.keep (Kep.of hbC) _ HSV2.out.2⟩
    have HRAV3 := Lib.hid (Rep.keep (Kep.of hbC) _ HRAV2.out)
    have HRBV3 := Lib.hid (Rep.keep (Kep.of hbC) _ HRBV2.out)
    have hSV3 : (fun V => V.heap[w.heap.size]? = some (obR xk xb xn xt xo xl xq xp xr xs) ∧ V.heap[w.heap.size + 1]? = some (obR yk yb yn yt yo yl yq yp yr ys)) V3 := bxkeep hbC hSV2.1 hSV2.2
    clear hbC
    go_wp2_with fail
    refine hK.out _ _ hSV3 (fun _ => ?_)
    clear hK K
    try simp only [Act.put, List.setIfInBounds_toArray, List.set_cons_zero, List.set_cons_succ]
    refine wpAnyH_ready (rs := [7]) (by kernel_rfl) (by simp) (AllReadyH.cons (o := ?o7z7g1) ?e7z7g1 (fun K hK => ?k7z7g1) AllReadyH.nil)
    case e7z7g1 => (simp only [List.getElem?_toArray, List.getElem?_cons_zero, List.getElem?_cons_succ]; rfl)
    go_simp
    have hcD := RSame_c HSV3.out.1 HSV3.out.2 hwX6 hwY6
    try unfold SmQ at hcD
    (with_reducible refine hcD.mono ?_)
    clear hcD
    rintro e V4 ⟨rfl, hbD⟩
    have HBV4 : Hid (Up w V4) := Up.be HBV3.out hbD
    have HSV4 : Hid (Rep (Pz w.heap.size) V4 X (c6 xk xb xn xt xo xl xq xp xr xs) ∧ Rep (Pz w.heap.size) V4 Y (c6 yk yb yn yt yo yl yq yp yr ys)) := ⟨Rep.keep (Kep.of hbD) _ HSV3.out.1, Rep.keep (Kep.of hbD) _ HSV3.out.2⟩
    have hSV4 : (fun V => V.heap[w.heap.size]? = some (obR xk xb xn xt xo xl xq xp xr xs) ∧ V.heap[w.heap.size + 1]? = some (obR yk yb yn yt yo yl yq yp yr ys)) V4 := bxkeep hbD hSV3.1 hSV3.2
    clear hbD
    go_wp2_with fail
    refine hK.out _ _ hSV4 (fun _ => ?_)
    clear hK K
    try simp only [Act.put, List.setIfInBounds_toArray, List.set_cons_zero, List.set_cons_succ]
    refine wpAnyH_take (i := 8) (oi := ?o8g1) (v := ?v8g1) ?e8g1 ?a8g1 ?b8g1 ?c8g1 ?q8g1 (Or.inl ⟨?w8g1, ?h8g1⟩) ?s8g1 ?r8g1
    case e8g1 => (simp only [List.getElem?_toArray, List.getElem?_cons_zero, List.getElem?_cons_succ]; rfl)
    case a8g1 => kernel_rfl
    case b8g1 => kernel_rfl
    case c8g1 => kernel_rfl
    case q8g1 => exact fun _ _ _ h => h
    case w8g1 => rfl
    case s8g1 => assumption
    case h8g1 => (intro W hSw; obtain ⟨hSa, hSb⟩ := hSw; obtain ⟨a0, a1, a2, a3, a4, a5⟩ := cells6 hSa; obtain ⟨b0, b1, b2, b3, b4, b5⟩ := cells6 hSb; go_simp; try with_reducible rfl)
    try simp only [Act.put, List.setIfInBounds_toArray, List.set_cons_zero, List.set_cons_succ]
    try simp only [beq_self_eq_true]
    refine wpAnyH_take (i := 9) (oi := ?o9g1) (v := ?v9g1) ?e9g1 ?a9g1 ?b9g1 ?c9g1 ?q9g1 (Or.inl ⟨?w9g1, ?h9g1⟩) ?s9g1 ?r9g1
    case e9g1 => (simp only [List.getElem?_toArray, List.getElem?_cons_zero, List.getElem?_cons_succ]; rfl)
    case a9g1 => kernel_rfl
    case b9g1 => kernel_rfl
    case c9g1 => kernel_rfl
    case q9g1 => exact fun _ _ _ h => h
    case w9g1 => rfl
    case s9g1 => assumption
    case h9g1 => (intro W hSw; obtain ⟨hSa, hSb⟩ := hSw; obtain ⟨a0, a1, a2, a3, a4, a5⟩ := cells6 hSa; obtain ⟨b0, b1, b2, b3, b4, b5⟩ := cells6 hSb; go_simp; try with_reducible rfl)
    try simp only [Act.put, List.setIfInBounds_toArray, List.set_cons_zero, List.set_cons_succ]
    refine wpAnyH_take (i := 10) (oi := ?o10g1) (v := ?v10g1) ?e10g1 ?a10g1 ?b10g1 ?c10g1 ?q10g1 (Or.inl ⟨?w10g1, ?h10g1⟩) ?s10g1 ?r10g1
    case e10g1 => (simp only [List.getElem?_toArray, List.getElem?_cons_zero, List.getElem?_cons_succ]; rfl)
    case a10g1 => kernel_rfl
    case b10g1 => kernel_rfl
    case c10g1 => kernel_rfl
    case q10g1 => exact fun _ _ _ h => h
    case w10g1 => rfl
    case s10g1 => assumption
    case h10g1 => (intro W hSw; obtain ⟨hSa, hSb⟩ := hSw; obtain ⟨a0, a1, a2, a3, a4, a5⟩ := cells6 hSa; obtain ⟨b0, b1, b2, b3, b4, b5⟩ := cells6 hSb; go_simp; try with_reducible rfl)
    try simp only [Act.put, List.setIfInBounds_toArray, List.set_cons_zero, List.set_cons_succ]
    refine wpAnyH_take (i := 12) (oi := ?o12g1) (v := ?v12g1) ?e12g1 ?a12g1 ?b12g1 ?c12g1 ?q12g1 (Or.inl ⟨?w12g1, ?h12g1⟩) ?s12g1 ?r12g1
    case e12g1 => (simp only [List.getElem?_toArray, List.getElem?_cons_zero, List.getElem?_cons_succ]; rfl)
    case a12g1 => kernel_rfl
    case b12g1 => kernel_rfl
    case c12g1 => kernel_rfl
    case q12g1 => exact fun _ _ _ h => h
    case w12g1 => rfl
    case s12g1 => assumption
    case h12g1 => (intro W hSw; obtain ⟨hSa, hSb⟩ := hSw; obtain ⟨a0, a1, a2, a3, a4, a5⟩ := cells6 hSa; obtain ⟨b0, b1, b2, b3, b4, b5⟩ := cells6 hSb; go_simp; try with_reducible rfl)
    try simp only [Act.put, List.setIfInBounds_toArray, List.set_cons_zero, List.set_cons_succ]
    refine wpAnyH_ready (rs := [11]) (by kernel_rfl) (by simp) (AllReadyH.cons (o := ?o11z11g1) ?e11z11g1 (fun K hK => ?k11z11g1) AllReadyH.nil)
    case e11z11g1 => (simp only [List.getElem?_toArray, List.getElem?_cons_zero, List.getElem?_cons_succ]; rfl)
    go_simp
    (with_reducible refine (Ours_c HSV4.out.1 hwX).mono ?_)
    rintro e V5 ⟨oEk, oEb, oEn, oEt, oEo, oEl, oEq, oEp, oEr, oEs, rfl, hrE, hbE⟩
    have HREV5 := Lib.hid hrE
    have HBV5 : Hid (Up w V5) := Up.be HBV4.out hbE
    have HSV5 : Hid (Rep (Pz w.heap.size) V5 X (c6 xk xb xn xt xo xl xq xp xr xs) ∧ Rep (Pz w.heap.size) V5 Y (c6 yk yb yn yt yo yl yq yp yr ys)) := ⟨Rep.keep (Kep.of hbE) _ HSV4.out.1, Rep.keep (Kep.of hbE) _ HSV4.out.2⟩
    have hSV5 : (fun V => V.heap[w.heap.size]? = some (obR xk xb xn xt xo xl xq xp xr xs) ∧ V.heap[w.heap.size + 1]? = some (obR yk yb yn yt yo yl yq yp yr ys)) V5 := bxkeep hbE hSV4.1 hSV4.2
    clear hrE hbE
    go_wp2_with fail
    refine hK.out _ _ hSV5 (fun _ => ?_)
    clear hK K
    try simp only [Act.put, List.setIfInBounds_toArray, List.set_cons_zero, List.set_cons_succ]
    refine wpAnyH_ready (rs := [13]) (by kernel_rfl) (by simp) (AllReadyH.cons (o := ?o13z13g1) ?e13z13g1 (fun K hK => ?k13z13g1) AllReadyH.nil)
    case e13z13g1 => (simp only [List.getElem?_toArray, List.getElem?_cons_zero, List.getElem?_cons_succ]; rfl)
    go_simp
    (with_reducible refine (Ours_c HSV5.out.1 hwX).mono ?_)
    rintro e V6 ⟨oFk, oFb, oFn, oFt, oFo, oFl, oFq, oFp, oFr, oFs, rfl, hrF, hbF⟩
    have HRFV6 := Lib.hid hrF
    have HBV6 : Hid (Up w V6) := Up.be HBV5.out hbF
    have HSV6 : Hid (Rep (Pz w.heap.size) V6 X (c6 xk xb xn xt xo xl xq xp xr xs) ∧ Rep (Pz w.heap.size) V6 Y (c6 yk yb yn yt yo yl yq yp yr ys)) := ⟨Rep.keep (Kep.of hbF) _ HSV5.out.1, Rep.keep (Kep.of hbF) _ HSV5.out.2⟩
    have HREV6 := Lib.hid (Rep.keep (Kep.of hbF) _ HREV5.out)
    have hSV6 : (fun V => V.heap[w.heap.size]? = some (obR xk xb xn xt xo xl xq xp xr xs) ∧ V.heap[w.heap.size + 1]? = some (obR yk yb yn yt yo yl yq yp yr ys)) V6 := bxkeep hbF hSV5.1 hSV5.2
    clear hrF hbF
    go_wp2_with fail
    refine hK.out _ _ hSV6 (fun _ => ?_)
    clear hK K
    try simp only [Act.put, List.setIfInBounds_toArray, List.set_cons_zero, List.set_cons_succ]
    refine wpAnyH_ready (rs := [14]) (by kernel_rfl) (by simp) (AllReadyH.cons (o := ?o14z14g1) ?e14z14g1 (fun K hK => ?k14z14g1) AllReadyH.nil)
    case e14z14g1 => (simp only [List.getElem?_toArray, List.getElem?_cons_zero, List.getElem?_cons_succ]; rfl)
    go_simp
    have hcG := Same_c HREV6.out HRFV6.out hwX6 hwX6
    unfold SmQ at hcG
    rw [smJ_refl] at hcG
    (with_reducible refine hcG.mono ?_)
    clear hcG
    rintro e V7 ⟨rfl, hbG⟩
    have HBV7 : Hid (Up w V7) := Up.be HBV6.out hbG
    have HSV7 : Hid (Rep (Pz w.heap.size) V7 X (c6 xk xb xn xt xo xl xq xp xr xs) ∧ Rep (Pz w.heap.size) V7 Y (c6 yk yb yn yt yo yl yq yp yr ys)) := ⟨Rep.keep (Kep.of hbG) _ HSV6.out.1, Rep.keep (Kep.of hbG) _ HSV6.out.2⟩
    have HREV7 := Lib.hid (Rep.keep (Kep.of hbG) _ HREV6.out)
    have HRFV7 := Lib.hid (Rep.keep (Kep.of hbG) _ HRFV6.out)
    have hSV7 : (fun V => V.heap[w.heap.size]? = some (obR xk xb xn xt xo xl xq xp xr xs) ∧ V.heap[w.heap.size + 1]? = some (obR yk yb yn yt yo yl yq yp yr ys)) V7 := bxkeep hbG hSV6.1 hSV6.2
    clear hbG
    go_wp2_with fail
    refine hK.out _ _ hSV7 (fun _ => ?_)
    clear hK K
    try simp only [Act.put, List.setIfInBounds_toArray, List.set_cons_zero, List.set_cons_succ]
    refine wpAnyH_take (i := 15) (oi := ?o15g1) (v := ?v15g1) ?e15g1 ?a15g1 ?b15g1 ?c15g1 ?q15g1 (Or.inl ⟨?w15g1, ?h15g1⟩) ?s15g1 ?r15g1
    case e15g1 => (simp only [List.getElem?_toArray, List.getElem?_cons_zero, List.getElem?_cons_succ]; rfl)
    case a15g1 => kernel_rfl
    case b15g1 => kernel_rfl
    case c15g1 => kernel_rfl
    case q15g1 => exact fun _ _ _ h => h
    case w15g1 => rfl
    case s15g1 => assumption
    case h15g1 => (intro W hSw; obtain ⟨hSa, hSb⟩ := hSw; obtain ⟨a0, a1, a2, a3, a4, a5⟩ := cells6 hSa; obtain ⟨b0, b1, b2, b3, b4, b5⟩ := cells6 hSb; go_simp; try with_reducible rfl)
    try simp only [Act.put, List.setIfInBounds_toArray, List.set_cons_zero, List.set_cons_succ]
    refine wpAnyH_take (i := 16) (oi := ?o16g1) (v := ?v16g1) ?e16g1 ?a16g1 ?b16g1 ?c16g1 ?q16g1 (Or.inl ⟨?w16g1, ?h16g1⟩) ?s16g1 ?r16g1
    case e16g1 => (simp only [List.getElem?_toArray, List.getElem?_cons_zero, List.getElem?_cons_succ]; rfl)
    case a16g1 => kernel_rfl
    case b16g1 => kernel_rfl
    case c16g1 => kernel_rfl
    case q16g1 => exact fun _ _ _ h => h
    case w16g1 => rfl
    case s16g1 => assumption
    case h16g1 => (intro W hSw; obtain ⟨hSa, hSb⟩ := hSw; obtain ⟨a0, a1, a2, a3, a4, a5⟩ := cells6 hSa; obtain ⟨b0, b1, b2, b3, b4, b5⟩ := cells6 hSb; go_simp; try with_reducible rfl)
    try simp only [Act.put, List.setIfInBounds_toArray, List.set_cons_zero, List.set_cons_succ]
    refine wpAnyH_take (i := 17) (oi := ?o17g1) (v := ?v17g1) ?e17g1 ?a17g1 ?b17g1 ?c17g1 ?q17g1 (Or.inl ⟨?w17g1, ?h17g1⟩) ?s17g1 ?r17g1
    case e17g1 => (simp only [List.getElem?_toArray, List.getElem?_cons_zero, List.getElem?_cons_succ]; rfl)
    case a17g1 => kernel_rfl
    case b17g1 => kernel_rfl
    case c17g1 => kernel_rfl
    case q17g1 => exact fun _ _ _ h => h
    case w17g1 => rfl
    case s17g1 => assumption
    case h17g1 => (intro W hSw; obtain ⟨hSa, hSb⟩ := hSw; obtain ⟨a0, a1, a2, a3, a4, a5⟩ := cells6 hSa; obtain ⟨b0, b1, b2, b3, b4, b5⟩ := cells6 hSb; go_simp; try with_reducible rfl)
    try simp only [Act.put, List.setIfInBounds_toArray, List.set_cons_zero, List.set_cons_succ]
    refine wpAnyH_take (i := 20) (oi := ?o20g1) (v := ?v20g1) ?e20g1 ?a20g1 ?b20g1 ?c20g1 ?q20g1 (Or.inl ⟨?w20g1, ?h20g1⟩) ?s20g1 ?r20g1
    case e20g1 => (simp only [List.getElem?_toArray, List.getElem?_cons_zero, List.getElem?_cons_succ]; rfl)
    case a20g1 => kernel_rfl
    case b20g1 => kernel_rfl
    case c20g1 => kernel_rfl
    case q20g1 => exact fun _ _ _ h => h
    case w20g1 => rfl
    case s20g1 => assumption
    case h20g1 => (intro W hSw; obtain ⟨hSa, hSb⟩ := hSw; obtain ⟨a0, a1, a2, a3, a4, a5⟩ := cells6 hSa; obtain ⟨b0, b1, b2, b3, b4, b5⟩ := cells6 hSb; go_simp; try with_reducible rfl)
    try simp only [Act.put, List.setIfInBounds_toArray, List.set_cons_zero, List.set_cons_succ]
    refine wpAnyH_ready (rs := [18]) (by kernel_rfl) (by simp) (AllReadyH.cons (o := ?o18z18g1) ?e18z18g1 (fun K hK => ?k18z18g1) AllReadyH.nil)
    case e18z18g1 => (simp only [List.getElem?_toArray, List.getElem?_cons_zero, List.getElem?_cons_succ]; rfl)
    go_simp
    (with_reducible refine (Ours_c HSV7.out.1 hwX).mono ?_)
    rintro e V8 ⟨oHk, oHb, oHn, oHt, oHo, oHl, oHq, oHp, oHr, oHs, rfl, hrH, hbH⟩
    have HRHV8 := Lib.hid hrH
    have HBV8 : Hid (Up w V8) := Up.be HBV7.out hbH
    have HSV8 : Hid (Rep (Pz w.heap.size) V8 X (c6 xk xb xn xt xo xl xq xp xr xs) ∧ Rep (Pz w.heap.size) V8 Y (c6 yk yb yn yt yo yl yq yp yr ys)) := ⟨Rep.keep (Kep.of hbH) _ HSV7.out.1, Rep.keep (Kep.of hbH) _ HSV7.out.2⟩
    have hSV8 : (fun V => V.heap[w.heap.size]? = some (obR xk xb xn xt xo xl xq xp xr xs) ∧ V.heap[w.heap.size + 1]? = some (obR yk yb yn yt yo yl yq yp yr ys)) V8 := bxkeep hbH hSV7.1 hSV7.2
    clear hrH hbH
    go_wp2_with fail
    refine hK.out _ _ hSV8 (fun _ => ?_)
    clear hK K
    try simp only [Act.put, List.setIfInBounds_toArray, List.set_cons_zero, List.set_cons_succ]
    refine wpAnyH_ready (rs := [19]) (by kernel_rfl) (by simp) (AllReadyH.cons (o := ?o19z19g1) ?e19z19g1 (fun K hK => ?k19z19g1) AllReadyH.nil)
    case e19z19g1 => (simp only [List.getElem?_toArray, List.getElem?_cons_zero, List.getElem?_cons_succ]; rfl)
    go_simp
    have hcJ := Depth_c HRHV8.out hwX6 hdX
    try unfold DpQ at hcJ
    (with_reducible refine hcJ.mono ?_)
    clear hcJ
    rintro e V9 ⟨rfl, hbJ⟩
    have HBV9 : Hid (Up w V9) := Up.be HBV8.out hbJ
    have HSV9 : Hid (Rep (Pz w.heap.size) V9 X (c6 xk xb xn xt xo xl xq xp xr xs) ∧ Rep (Pz w.heap.size) V9 Y (c6 yk yb yn yt yo yl yq yp yr ys)) := ⟨Rep.keep (Kep.of hbJ) _ HSV8.out.1, Rep.keep (Kep.of hbJ) _ HSV8.out.2⟩
    have HRHV9 := Lib.hid (Rep.keep (Kep.of hbJ) _ HRHV8.out)
    have hSV9 : (fun V => V.heap[w.heap.size]? = some (obR xk xb xn xt xo xl xq xp xr xs) ∧ V.heap[w.heap.size + 1]? = some (obR yk yb yn yt yo yl yq yp yr ys)) V9 := bxkeep hbJ hSV8.1 hSV8.2
    clear hbJ
    go_wp2_with fail
    refine hK.out _ _ hSV9 (fun _ => ?_)
    clear hK K
    try simp only [Act.put, List.setIfInBounds_toArray, List.set_cons_zero, List.set_cons_succ]
    refine wpAnyH_ready (rs := [21]) (by kernel_rfl) (by simp) (AllReadyH.cons (o := ?o21z21g1) ?e21z21g1 (fun K hK => ?k21z21g1) AllReadyH.nil)
    case e21z21g1 => (simp only [List.getElem?_toArray, List.getElem?_cons_zero, List.getElem?_cons_succ]; rfl)
    go_simp
    have hcK := RDepth_c HSV9.out.1 hwX6 hdX
    try unfold DpQ at hcK
    (with_reducible refine hcK.mono ?_)
    clear hcK
    rintro e V10 ⟨rfl, hbK⟩
    have HBV10 : Hid (Up w V10) := Up.be HBV9.out hbK
    have HSV10 : Hid (Rep (Pz w.heap.size) V10 X (c6 xk xb xn xt xo xl xq xp xr xs) ∧ Rep (Pz w.heap.size) V10 Y (c6 yk yb yn yt yo yl yq yp yr ys)) := ⟨Rep.keep (Kep.of hbK) _ HSV9.out.1, Rep.keep (Kep.of hbK) _ HSV9.out.2⟩
    have hSV10 : (fun V => V.heap[w.heap.size]? = some (obR xk xb xn xt xo xl xq xp xr xs) ∧ V.heap[w.heap.size + 1]? = some (obR yk yb yn yt yo yl yq yp yr ys)) V10 := bxkeep hbK hSV9.1 hSV9.2
    clear hbK
    go_wp2_with fail
    refine hK.out _ _ hSV10 (fun _ => ?_)
    clear hK K
    try simp only [Act.put, List.setIfInBounds_toArray, List.set_cons_zero, List.set_cons_succ]
    refine wpAnyH_take (i := 22) (oi := ?o22g1) (v := ?v22g1) ?e22g1 ?a22g1 ?b22g1 ?c22g1 ?q22g1 (Or.inl ⟨?w22g1, ?h22g1⟩) ?s22g1 ?r22g1
    case e22g1 => (simp only [List.getElem?_toArray, List.getElem?_cons_zero, List.getElem?_cons_succ]; rfl)
    case a22g1 => kernel_rfl
    case b22g1 => kernel_rfl
    case c22g1 => kernel_rfl
    case q22g1 => exact fun _ _ _ h => h
    case w22g1 => rfl
    case s22g1 => assumption
    case h22g1 => (intro W hSw; obtain ⟨hSa, hSb⟩ := hSw; obtain ⟨a0, a1, a2, a3, a4, a5⟩ := cells6 hSa; obtain ⟨b0, b1, b2, b3, b4, b5⟩ := cells6 hSb; go_simp; try with_reducible rfl)
    try simp only [Act.put, List.setIfInBounds_toArray, List.set_cons_zero, List.set_cons_succ]
    try simp only [beq_self_eq_true]
    refine wpAnyH_take (i := 23) (oi := ?o23g1) (v := ?v23g1) ?e23g1 ?a23g1 ?b23g1 ?c23g1 ?q23g1 (Or.inl ⟨?w23g1, ?h23g1⟩) ?s23g1 ?r23g1
    case e23g1 => (simp only [List.getElem?_toArray, List.getElem?_cons_zero, List.getElem?_cons_succ]; rfl)
    case a23g1 => kernel_rfl
    case b23g1 => kernel_rfl
    case c23g1 => kernel_rfl
    case q23g1 => exact fun _ _ _ h => h
    case w23g1 => rfl
    case s23g1 => assumption
    case h23g1 => (intro W hSw; obtain ⟨hSa, hSb⟩ := hSw; obtain ⟨a0, a1, a2, a3, a4, a5⟩ := cells6 hSa; obtain ⟨b0, b1, b2, b3, b4, b5⟩ := cells6 hSb; go_simp; try with_reducible rfl)
    try simp only [Act.put, List.setIfInBounds_toArray, List.set_cons_zero, List.set_cons_succ]
    refine wpAnyH_take (i := 24) (oi := ?o24g1) (v := ?v24g1) ?e24g1 ?a24g1 ?b24g1 ?c24g1 ?q24g1 (Or.inl ⟨?w24g1, ?h24g1⟩) ?s24g1 ?r24g1
    case e24g1 => (simp only [List.getElem?_toArray, List.getElem?_cons_zero, List.getElem?_cons_succ]; rfl)
    case a24g1 => kernel_rfl
    case b24g1 => kernel_rfl
    case c24g1 => kernel_rfl
    case q24g1 => exact fun _ _ _ h => h
    case w24g1 => rfl
    case s24g1 => assumption
    case h24g1 => (intro W hSw; obtain ⟨hSa, hSb⟩ := hSw; obtain ⟨a0, a1, a2, a3, a4, a5⟩ := cells6 hSa; obtain ⟨b0, b1, b2, b3, b4, b5⟩ := cells6 hSb; go_simp; try with_reducible rfl)
    try simp only [Act.put, List.setIfInBounds_toArray, List.set_cons_zero, List.set_cons_succ]
    refine wpAnyH_ready (rs := [25]) (by kernel_rfl) (by simp) (AllReadyH.cons (o := ?o25z25g1) ?e25z25g1 (fun K hK => ?k25z25g1) AllReadyH.nil)
    case e25z25g1 => (simp only [List.getElem?_toArray, List.getElem?_cons_zero, List.getElem?_cons_succ]; rfl)
    go_simp
    have hcL := awake_c _ (Env.go HE.out HBV10.out.below)
    try unfold SmQ at hcL
    (with_reducible refine hcL.mono ?_)
    clear hcL
    rintro e V11 ⟨rfl, hbL⟩
    have HBV11 : Hid (Up w V11) := Up.be HBV10.out hbL
    have HSV11 : Hid (Rep (Pz w.heap.size) V11 X (c6 xk xb xn xt xo xl xq xp xr xs) ∧ Rep (Pz w.heap.size) V11 Y (c6 yk yb yn yt yo yl yq yp yr ys)) := ⟨Rep.keep (Kep.of hbL) _ HSV10.out.1, Rep.keep (Kep.of hbL) _ HSV10.out.2⟩
    have hSV11 : (fun V => V.heap[w.heap.size]? = some (obR xk xb xn xt xo xl xq xp xr xs) ∧ V.heap[w.heap.size + 1]? = some (obR yk yb yn yt yo yl yq yp yr ys)) V11 := bxkeep hbL hSV10.1 hSV10.2
    clear hbL
    go_wp2_with fail
    refine hK.out _ _ hSV11 (fun _ => ?_)
    clear hK K
    try simp only [Act.put, List.setIfInBounds_toArray, List.set_cons_zero, List.set_cons_succ]
    refine wpAnyH_take (i := 26) (oi := ?o26g1) (v := ?v26g1) ?e26g1 ?a26g1 ?b26g1 ?c26g1 ?q26g1 (Or.inl ⟨?w26g1, ?h26g1⟩) ?s26g1 ?r26g1
    case e26g1 => (simp only [List.getElem?_toArray, List.getElem?_cons_zero, List.getElem?_cons_succ]; rfl)
    case a26g1 => kernel_rfl
    case b26g1 => kernel_rfl
    case c26g1 => kernel_rfl
    case q26g1 => exact fun _ _ _ h => h
    case w26g1 => rfl
    case s26g1 => assumption
    case h26g1 => (intro W hSw; obtain ⟨hSa, hSb⟩ := hSw; obtain ⟨a0, a1, a2, a3, a4, a5⟩ := cells6 hSa; obtain ⟨b0, b1, b2, b3, b4, b5⟩ := cells6 hSb; go_simp; try with_reducible rfl)
    try simp only [Act.put, List.setIfInBounds_toArray, List.set_cons_zero, List.set_cons_succ]
    refine wpAnyH_take (i := 27) (oi := ?o27g1) (v := ?v27g1) ?e27g1 ?a27g1 ?b27g1 ?c27g1 ?q27g1 (Or.inl ⟨?w27g1, ?h27g1⟩) ?s27g1 ?r27g1
    case e27g1 => (simp only [List.getElem?_toArray, List.getElem?_cons_zero, List.getElem?_cons_succ]; rfl)
    case a27g1 => kernel_rfl
    case b27g1 => kernel_rfl
    case c27g1 => kernel_rfl
    case q27g1 => exact fun _ _ _ h => h
    case w27g1 => rfl
    case s27g1 => assumption
    case h27g1 => (intro W hSw; obtain ⟨hSa, hSb⟩ := hSw; obtain ⟨a0, a1, a2, a3, a4, a5⟩ := cells6 hSa; obtain ⟨b0, b1, b2, b3, b4, b5⟩ := cells6 hSb; go_simp; try with_reducible rfl)
    try simp only [Act.put, List.setIfInBounds_toArray, List.set_cons_zero, List.set_cons_succ]
    refine wpAnyH_done (by kernel_rfl) ?_ _
    go_wp2
    go_ret
    exact ⟨rfl, HBV11.out.below⟩
  · skip
    clear a0 a1 a2 a3 a4 a5 b0 b1 b2 b3 b4 b5 c0 c1 c2 c3 c4 c5 e0 e1 e2 e3 e4 e5 f0 f1 f2 f3 f4 f5 g0 g1 g2 g3 g4 g5
    obtain ⟨wA, hwA⟩ : ∃ wA, wA = ((((((w2.setCell ⟨w.heap.size, 0, none⟩ (.int .i64 xk)).setCell ⟨w.heap.size, 1, none⟩ (.bool xb)).setCell ⟨w.heap.size, 2, none⟩ (.int .i64 xn)).setCell ⟨w.heap.size, 3, none⟩ (.string xt)).setCell ⟨w.heap.size, 4, none⟩ (.slice xo xl xq)).setCell ⟨w.heap.size, 5, none⟩ (.slice xp xr xs)) := ⟨_, rfl⟩
    have HKA3 : Hid (wA.heap[w.heap.size]? = some (obR xk xb xn xt xo xl xq xp xr xs)) := by rw [hwA]; exact Lib.hid (set6 HKA2.out _ _ _ _ _ _)
    have HGA : Hid (Grw (fun j => j = w.heap.size) w2 wA) := by rw [hwA]; exact Lib.hid (gr_set6 w2 w.heap.size _ _ _ _ _ _)
    have HKB3 := Lib.hid ((HGA.out.block (Array.getElem?_eq_some_iff.1 HKB2.out).1 (by omega)).trans HKB2.out)
    rw [← hwA]
    clear hwA
    obtain ⟨V0, hV0⟩ : ∃ V0, V0 = ((((((wA.setCell ⟨w.heap.size + 1, 0, none⟩ (.int .i64 yk)).setCell ⟨w.heap.size + 1, 1, none⟩ (.bool yb)).setCell ⟨w.heap.size + 1, 2, none⟩ (.int .i64 yn)).setCell ⟨w.heap.size + 1, 3, none⟩ (.string yt)).setCell ⟨w.heap.size + 1, 4, none⟩ (.slice yo yl yq)).setCell ⟨w.heap.size + 1, 5, none⟩ (.slice yp yr ys)) := ⟨_, rfl⟩
    have HKB4 : Hid (V0.heap[w.heap.size + 1]? = some (obR yk yb yn yt yo yl yq yp yr ys)) := by rw [hV0]; exact Lib.hid (set6 HKB3.out _ _ _ _ _ _)
    have HGB : Hid (Grw (fun j => j = w.heap.size + 1) wA V0) := by rw [hV0]; exact Lib.hid (gr_set6 wA (w.heap.size + 1) _ _ _ _ _ _)
    have HKA4 := Lib.hid ((HGB.out.block (Array.getElem?_eq_some_iff.1 HKA3.out).1 (by omega)).trans HKA3.out)
    rw [← hV0]
    clear hV0
    have HBV0 : Hid (Up w V0) := Up.one (Up.one (Up.be (Up.be (Grw.of_below HB0.out (fun k h _ => h)) HBW1.out) HBW2.out) HGA.out (Nat.le_refl _)) HGB.out (by omega)
    have kA : Kep (Pz w.heap.size) w2 V0 := ⟨Nat.le_trans HGA.out.size HGB.out.size, fun k hk hl => (HGB.out.block (Nat.lt_of_lt_of_le hl HGA.out.size) (by rcases hk with h | h <;> omega)).trans (HGA.out.block hl (by rcases hk with h | h <;> omega))⟩
    have hs0 : W0.heap.size ≤ w1.heap.size := HBW1.out.size
    have HSV0 : Hid (Rep (Pz w.heap.size) V0 X (c6 xk xb xn xt xo xl xq xp xr xs) ∧ Rep (Pz w.heap.size) V0 Y (c6 yk yb yn yt yo yl yq yp yr ys)) := ⟨Rep.keep kA _ (Rep.keep (Kep.of HBW2.out) _ (Rep.mono (fun k hk _ => by
        rcases hk with h | h
        · exact .inl h
        · exact .inr (by have h : W0.heap.size ≤ k := h; omega)) _ HRX.out)), Rep.keep kA _ (Rep.mono (fun k hk _ => by
        rcases hk with h | h
        · exact .inl h
        · exact .inr (by have h : w1.heap.size ≤ k := h; omega)) _ HRY.out)⟩
    have hSV0 : (fun V => V.heap[w.heap.size]? = some (obR xk xb xn xt xo xl xq xp xr xs) ∧ V.heap[w.heap.size + 1]? = some (obR yk yb yn yt yo yl yq yp yr ys)) V0 := ⟨HKA4.out, HKB4.out⟩
    have hS0 : (fun V => V.heap[w.heap.size]? = some (obR xk xb xn xt xo xl xq xp xr xs) ∧ V.heap[w.heap.size + 1]? = some (obR yk yb yn yt yo yl yq yp yr ys)) V0.drew := ⟨HKA4.out, HKB4.out⟩
    obtain ⟨V9, hV9⟩ : ∃ V9, V9 = V0.drew := ⟨_, rfl⟩
    have HBV9 : Hid (Up w V9) := by rw [hV9]; exact Lib.hid (Up.be HBV0.out ((Below.refl _ _).drew))
    have HSV9 : Hid (Rep (Pz w.heap.size) V9 X (c6 xk xb xn xt xo xl xq xp xr xs) ∧ Rep (Pz w.heap.size) V9 Y (c6 yk yb yn yt yo yl yq yp yr ys)) := by rw [hV9]; exact Lib.hid ⟨Rep.keep (Kep.of ((Below.refl _ _).drew)) _ HSV0.out.1, Rep.keep (Kep.of ((Below.refl _ _).drew)) _ HSV0.out.2⟩
    have hSV9 : (fun V => V.heap[w.heap.size]? = some (obR xk xb xn xt xo xl xq xp xr xs) ∧ V.heap[w.heap.size + 1]? = some (obR yk yb yn yt yo yl yq yp yr ys)) V9 := by rw [hV9]; exact hS0
    clear hSV0 HSV0 HBV0 HKA4 HKB4
    clear HRX HRY HKA1 HKB1 HKA2 HKB2 HKA3 HKB3 HGA HGB HCA HCB HBW1 HBW2 kA hs0
    go_upto_region 2 with (fail)
    refine wp_region_held_drew (S := (fun V => V.heap[w.heap.size]? = some (obR xk xb xn xt xo xl xq xp xr xs) ∧ V.heap[w.heap.size + 1]? = some (obR yk yb yn yt yo yl yq yp yr ys))) (by kernel_rfl) hS0 (fun hHeld => ?_)
    rw [← hV9] at hHeld ⊢
    clear hV9 hS0 hHeld
    refine wpAnyH_take (i := 0) (oi := ?o0g2) (v := ?v0g2) ?e0g2 ?a0g2 ?b0g2 ?c0g2 ?q0g2 (Or.inl ⟨?w0g2, ?h0g2⟩) ?s0g2 ?r0g2
    case e0g2 => (simp only [List.getElem?_toArray, List.getElem?_cons_zero, List.getElem?_cons_succ]; rfl)
    case a0g2 => kernel_rfl
    case b0g2 => kernel_rfl
    case c0g2 => kernel_rfl
    case q0g2 => exact fun _ _ _ h => h
    case w0g2 => rfl
    case s0g2 => assumption
    case h0g2 => (intro W hSw; obtain ⟨hSa, hSb⟩ := hSw; obtain ⟨a0, a1, a2, a3, a4, a5⟩ := cells6 hSa; obtain ⟨b0, b1, b2, b3, b4, b5⟩ := cells6 hSb; go_simp; try with_reducible rfl)
    try simp only [Act.put, List.setIfInBounds_toArray, List.set_cons_zero, List.set_cons_succ]
    refine wpAnyH_take (i := 2) (oi := ?o2g2) (v := ?v2g2) ?e2g2 ?a2g2 ?b2g2 ?c2g2 ?q2g2 (Or.inl ⟨?w2g2, ?h2g2⟩) ?s2g2 ?r2g2
    case e2g2 => (simp only [List.getElem?_toArray, List.getElem?_cons_zero, List.getElem?_cons_succ]; rfl)
    case a2g2 => kernel_rfl
    case b2g2 => kernel_rfl
    case c2g2 => kernel_rfl
    case q2g2 => exact fun _ _ _ h => h
    case w2g2 => rfl
    case s2g2 => assumption
    case h2g2 => (intro W hSw; obtain ⟨hSa, hSb⟩ := hSw; obtain ⟨a0, a1, a2, a3, a4, a5⟩ := cells6 hSa; obtain ⟨b0, b1, b2, b3, b4, b5⟩ := cells6 hSb; go_simp; try with_reducible rfl)
    try simp only [Act.put, List.setIfInBounds_toArray, List.set_cons_zero, List.set_cons_succ]
    refine wpAnyH_take (i := 5) (oi := ?o5g2) (v := ?v5g2) ?e5g2 ?a5g2 ?b5g2 ?c5g2 ?q5g2 (Or.inl ⟨?w5g2, ?h5g2⟩) ?s5g2 ?r5g2
    case e5g2 => (simp only [List.getElem?_toArray, List.getElem?_cons_zero, List.getElem?_cons_succ]; rfl)
    case a5g2 => kernel_rfl
    case b5g2 => kernel_rfl
    case c5g2 => kernel_rfl
    case q5g2 => exact fun _ _ _ h => h
    case w5g2 => rfl
    case s5g2 => assumption
    case h5g2 => (intro W hSw; obtain ⟨hSa, hSb⟩ := hSw; obtain ⟨a0, a1, a2, a3, a4, a5⟩ := cells6 hSa; obtain ⟨b0, b1, b2, b3, b4, b5⟩ := cells6 hSb; go_simp; try with_reducible rfl)
    try simp only [Act.put, List.setIfInBounds_toArray, List.set_cons_zero, List.set_cons_succ]
    refine wpAnyH_take (i := 6) (oi := ?o6g2) (v := ?v6g2) ?e6g2 ?a6g2 ?b6g2 ?c6g2 ?q6g2 (Or.inl ⟨?w6g2, ?h6g2⟩) ?s6g2 ?r6g2
    case e6g2 => (simp only [List.getElem?_toArray, List.getElem?_cons_zero, List.getElem?_cons_succ]; rfl)
    case a6g2 => kernel_rfl
    case b6g2 => kernel_rfl
    case c6g2 => kernel_rfl
    case q6g2 => exact fun _ _ _ h => h
    case w6g2 => rfl
    case s6g2 => assumption
    case h6g2 => (intro W hSw; obtain ⟨hSa, hSb⟩ := hSw; obtain ⟨a0, a1, a2, a3, a4, a5⟩ := cells6 hSa; obtain ⟨b0, b1, b2, b3, b4, b5⟩ := cells6 hSb; go_simp; try with_reducible rfl)
    try simp only [Act.put, List.setIfInBounds_toArray, List.set_cons_zero, List.set_cons_succ]
    refine wpAnyH_ready (rs := [1]) (by kernel_rfl) (by simp) (AllReadyH.cons (o := ?o1z1g2) ?e1z1g2 (fun K hK => ?k1z1g2) AllReadyH.nil)
    case e1z1g2 => (simp only [List.getElem?_toArray, List.getElem?_cons_zero, List.getElem?_cons_succ]; rfl)
    go_simp
    (with_reducible refine (Ours_c HSV9.out.1 hwX).mono ?_)
    rintro e V1 ⟨oAk, oAb, oAn, oAt, oAo, oAl, oAq, oAp, oAr, oAs, rfl, hrA, hbA⟩
    have HRAV1 := Lib.hid hrA
    have HBV1 : Hid (Up w V1) := Up.be HBV9.out hbA
    have HSV1 : Hid (Rep (Pz w.heap.size) V1 X (c6 xk xb xn xt xo xl xq xp xr xs) ∧ Rep (Pz w.heap.size) V1 Y (c6 yk yb yn yt yo yl yq yp yr ys)) := ⟨Rep.keep (Kep.of hbA) _ HSV9.out.1, Rep.keep (Kep.of hbA) _ HSV9.out.2⟩
    have hSV1 : (fun V => V.heap[w.heap.size]? = some (obR xk xb xn xt xo xl xq xp xr xs) ∧ V.heap[w.heap.size + 1]? = some (obR yk yb yn yt yo yl yq yp yr ys)) V1 := bxkeep hbA hSV9.1 hSV9.2
    clear hrA hbA
    go_wp2_with fail
    refine hK.out _ _ hSV1 (fun _ => ?_)
    clear hK K
    try simp only [Act.put, List.setIfInBounds_toArray, List.set_cons_zero, List.set_cons_succ]
    refine wpAnyH_ready (rs := [3]) (by kernel_rfl) (by simp) (AllReadyH.cons (o := ?o3z3g2) ?e3z3g2 (fun K hK => ?k3z3g2) AllReadyH.nil)
    case e3z3g2 => (simp only [List.getElem?_toArray, List.getElem?_cons_zero, List.getElem?_cons_succ]; rfl)
    go_simp
    (with_reducible refine (Ours_c HSV1.out.2 hwY).mono ?_)
    rintro e V2 ⟨oBk, oBb, oBn, oBt, oBo, oBl, oBq, oBp, oBr, oBs, rfl, hrB, hbB⟩
    have HRBV2 := Lib.hid hrB
    have HBV2 : Hid (Up w V2) := Up.be HBV1.out hbB
    have HSV2 : Hid (Rep (Pz w.heap.size) V2 X (c6 xk xb xn xt xo xl xq xp xr xs) ∧ Rep (Pz w.heap.size) V2 Y (c6 yk yb yn yt yo yl yq yp yr ys)) := ⟨Rep.keep (Kep.of hbB) _ HSV1.out.1, Rep.keep (Kep.of hbB) _ HSV1.out.2⟩
    have HRAV2 := Lib.hid (Rep.keep (Kep.of hbB) _ HRAV1.out)
    have hSV2 : (fun V => V.heap[w.heap.size]? = some (obR xk xb xn xt xo xl xq xp xr xs) ∧ V.heap[w.heap.size + 1]? = some (obR yk yb yn yt yo yl yq yp yr ys)) V2 := bxkeep hbB hSV1.1 hSV1.2
    clear hrB hbB
    go_wp2_with fail
    refine hK.out _ _ hSV2 (fun _ => ?_)
    clear hK K
    try simp only [Act.put, List.setIfInBounds_toArray, List.set_cons_zero, List.set_cons_succ]
    refine wpAnyH_ready (rs := [4]) (by kernel_rfl) (by simp) (AllReadyH.cons (o := ?o4z4g2) ?e4z4g2 (fun K hK => ?k4z4g2) AllReadyH.nil)
    case e4z4g2 => (simp only [List.getElem?_toArray, List.getElem?_cons_zero, List.getElem?_cons_succ]; rfl)
    go_simp
    have hcC := Same_c HRAV2.out HRBV2.out hwX6 hwY6
    try unfold SmQ at hcC
    (with_reducible refine hcC.mono ?_)
    clear hcC
    rintro e V3 ⟨rfl, hbC⟩
    have HBV3 : Hid (Up w V3) := Up.be HBV2.out hbC
    have HSV3 : Hid (Rep (Pz w.heap.size) V3 X (c6 xk xb xn xt xo xl xq xp xr xs) ∧ Rep (Pz w.heap.size) V3 Y (c6 yk yb yn yt yo yl yq yp yr ys)) := ⟨Rep.keep (Kep.of hbC) _ HSV2.out.1, Rep.keep (Kep.of hbC) _ HSV2.out.2⟩
    have HRAV3 := Lib.hid (Rep.keep (Kep.of hbC) _ HRAV2.out)
    have HRBV3 := Lib.hid (Rep.keep (Kep.of hbC) _ HRBV2.out)
    have hSV3 : (fun V => V.heap[w.heap.size]? = some (obR xk xb xn xt xo xl xq xp xr xs) ∧ V.heap[w.heap.size + 1]? = some (obR yk yb yn yt yo yl yq yp yr ys)) V3 := bxkeep hbC hSV2.1 hSV2.2
    clear hbC
    go_wp2_with fail
    refine hK.out _ _ hSV3 (fun _ => ?_)
    clear hK K
    try simp only [Act.put, List.setIfInBounds_toArray, List.set_cons_zero, List.set_cons_succ]
    refine wpAnyH_ready (rs := [7]) (by kernel_rfl) (by simp) (AllReadyH.cons (o := ?o7z7g2) ?e7z7g2 (fun K hK => ?k7z7g2) AllReadyH.nil)
    case e7z7g2 => (simp only [List.getElem?_toArray, List.getElem?_cons_zero, List.getElem?_cons_succ]; rfl)
    go_simp
    have hcD := RSame_c HSV3.out.1 HSV3.out.2 hwX6 hwY6
    try unfold SmQ at hcD
    (with_reducible refine hcD.mono ?_)
    clear hcD
    rintro e V4 ⟨rfl, hbD⟩
    have HBV4 : Hid (Up w V4) := Up.be HBV3.out hbD
    have HSV4 : Hid (Rep (Pz w.heap.size) V4 X (c6 xk xb xn xt xo xl xq xp xr xs) ∧ Rep (Pz w.heap.size) V4 Y (c6 yk yb yn yt yo yl yq yp yr ys)) := ⟨Rep.keep (Kep.of hbD) _ HSV3.out.1, Rep.keep (Kep.of hbD) _ HSV3.out.2⟩
    have hSV4 : (fun V => V.heap[w.heap.size]? = some (obR xk xb xn xt xo xl xq xp xr xs) ∧ V.heap[w.heap.size + 1]? = some (obR yk yb yn yt yo yl yq yp yr ys)) V4 := bxkeep hbD hSV3.1 hSV3.2
    clear hbD
    go_wp2_with fail
    refine hK.out _ _ hSV4 (fun _ => ?_)
    clear hK K
    try simp only [Act.put, List.setIfInBounds_toArray, List.set_cons_zero, List.set_cons_succ]
    refine wpAnyH_take (i := 8) (oi := ?o8g2) (v := ?v8g2) ?e8g2 ?a8g2 ?b8g2 ?c8g2 ?q8g2 (Or.inl ⟨?w8g2, ?h8g2⟩) ?s8g2 ?r8g2
    case e8g2 => (simp only [List.getElem?_toArray, List.getElem?_cons_zero, List.getElem?_cons_succ]; rfl)
    case a8g2 => kernel_rfl
    case b8g2 => kernel_rfl
    case c8g2 => kernel_rfl
    case q8g2 => exact fun _ _ _ h => h
    case w8g2 => rfl
    case s8g2 => assumption
    case h8g2 => (intro W hSw; obtain ⟨hSa, hSb⟩ := hSw; obtain ⟨a0, a1, a2, a3, a4, a5⟩ := cells6 hSa; obtain ⟨b0, b1, b2, b3, b4, b5⟩ := cells6 hSb; go_simp; try with_reducible rfl)
    try simp only [Act.put, List.setIfInBounds_toArray, List.set_cons_zero, List.set_cons_succ]
    try simp only [beq_self_eq_true]
    refine wpAnyH_take (i := 9) (oi := ?o9g2) (v := ?v9g2) ?e9g2 ?a9g2 ?b9g2 ?c9g2 ?q9g2 (Or.inl ⟨?w9g2, ?h9g2⟩) ?s9g2 ?r9g2
    case e9g2 => (simp only [List.getElem?_toArray, List.getElem?_cons_zero, List.getElem?_cons_succ]; rfl)
    case a9g2 => kernel_rfl
    case b9g2 => kernel_rfl
    case c9g2 => kernel_rfl
    case q9g2 => exact fun _ _ _ h => h
    case w9g2 => rfl
    case s9g2 => assumption
    case h9g2 => (intro W hSw; obtain ⟨hSa, hSb⟩ := hSw; obtain ⟨a0, a1, a2, a3, a4, a5⟩ := cells6 hSa; obtain ⟨b0, b1, b2, b3, b4, b5⟩ := cells6 hSb; go_simp; try with_reducible rfl)
    try simp only [Act.put, List.setIfInBounds_toArray, List.set_cons_zero, List.set_cons_succ]
    refine wpAnyH_take (i := 10) (oi := ?o10g2) (v := ?v10g2) ?e10g2 ?a10g2 ?b10g2 ?c10g2 ?q10g2 (Or.inl ⟨?w10g2, ?h10g2⟩) ?s10g2 ?r10g2
    case e10g2 => (simp only [List.getElem?_toArray, List.getElem?_cons_zero, List.getElem?_cons_succ]; rfl)
    case a10g2 => kernel_rfl
    case b10g2 => kernel_rfl
    case c10g2 => kernel_rfl
    case q10g2 => exact fun _ _ _ h => h
    case w10g2 => rfl
    case s10g2 => assumption
    case h10g2 => (intro W hSw; obtain ⟨hSa, hSb⟩ := hSw; obtain ⟨a0, a1, a2, a3, a4, a5⟩ := cells6 hSa; obtain ⟨b0, b1, b2, b3, b4, b5⟩ := cells6 hSb; go_simp; try with_reducible rfl)
    try simp only [Act.put, List.setIfInBounds_toArray, List.set_cons_zero, List.set_cons_succ]
    refine wpAnyH_take (i := 12) (oi := ?o12g2) (v := ?v12g2) ?e12g2 ?a12g2 ?b12g2 ?c12g2 ?q12g2 (Or.inl ⟨?w12g2, ?h12g2⟩) ?s12g2 ?r12g2
    case e12g2 => (simp only [List.getElem?_toArray, List.getElem?_cons_zero, List.getElem?_cons_succ]; rfl)
    case a12g2 => kernel_rfl
    case b12g2 => kernel_rfl
    case c12g2 => kernel_rfl
    case q12g2 => exact fun _ _ _ h => h
    case w12g2 => rfl
    case s12g2 => assumption
    case h12g2 => (intro W hSw; obtain ⟨hSa, hSb⟩ := hSw; obtain ⟨a0, a1, a2, a3, a4, a5⟩ := cells6 hSa; obtain ⟨b0, b1, b2, b3, b4, b5⟩ := cells6 hSb; go_simp; try with_reducible rfl)
    try simp only [Act.put, List.setIfInBounds_toArray, List.set_cons_zero, List.set_cons_succ]
    refine wpAnyH_ready (rs := [11]) (by kernel_rfl) (by simp) (AllReadyH.cons (o := ?o11z11g2) ?e11z11g2 (fun K hK => ?k11z11g2) AllReadyH.nil)
    case e11z11g2 => (simp only [List.getElem?_toArray, List.getElem?_cons_zero, List.getElem?_cons_succ]; rfl)
    go_simp
    (with_reducible refine (Ours_c HSV4.out.1 hwX).mono ?_)
    rintro e V5 ⟨oEk, oEb, oEn, oEt, oEo, oEl, oEq, oEp, oEr, oEs, rfl, hrE, hbE⟩
    have HREV5 := Lib.hid hrE
    have HBV5 : Hid (Up w V5) := Up.be HBV4.out hbE
    have HSV5 : Hid (Rep (Pz w.heap.size) V5 X (c6 xk xb xn xt xo xl xq xp xr xs) ∧ Rep (Pz w.heap.size) V5 Y (c6 yk yb yn yt yo yl yq yp yr ys)) := ⟨Rep.keep (Kep.of hbE) _ HSV4.out.1, Rep.keep (Kep.of hbE) _ HSV4.out.2⟩
    have hSV5 : (fun V => V.heap[w.heap.size]? = some (obR xk xb xn xt xo xl xq xp xr xs) ∧ V.heap[w.heap.size + 1]? = some (obR yk yb yn yt yo yl yq yp yr ys)) V5 := bxkeep hbE hSV4.1 hSV4.2
    clear hrE hbE
    go_wp2_with fail
    refine hK.out _ _ hSV5 (fun _ => ?_)
    clear hK K
    try simp only [Act.put, List.setIfInBounds_toArray, List.set_cons_zero, List.set_cons_succ]
    refine wpAnyH_ready (rs := [13]) (by kernel_rfl) (by simp) (AllReadyH.cons (o := ?o13z13g2) ?e13z13g2 (fun K hK => ?k13z13g2) AllReadyH.nil)
    case e13z13g2 => (simp only [List.getElem?_toArray, List.getElem?_cons_zero, List.getElem?_cons_succ]; rfl)
    go_simp
    (with_reducible refine (Ours_c HSV5.out.1 hwX).mono ?_)
    rintro e V6 ⟨oFk, oFb, oFn, oFt, oFo, oFl, oFq, oFp, oFr, oFs, rfl, hrF, hbF⟩
    have HRFV6 := Lib.hid hrF
    have HBV6 : Hid (Up w V6) := Up.be HBV5.out hbF
    have HSV6 : Hid (Rep (Pz w.heap.size) V6 X (c6 xk xb xn xt xo xl xq xp xr xs) ∧ Rep (Pz w.heap.size) V6 Y (c6 yk yb yn yt yo yl yq yp yr ys)) := ⟨Rep.keep (Kep.of hbF) _ HSV5.out.1, Rep.keep (Kep.of hbF) _ HSV5.out.2⟩
    have HREV6 := Lib.hid (Rep.keep (Kep.of hbF) _ HREV5.out)
    have hSV6 : (fun V => V.heap[w.heap.size]? = some (obR xk xb xn xt xo xl xq xp xr xs) ∧ V.heap[w.heap.size + 1]? = some (obR yk yb yn yt yo yl yq yp yr ys)) V6 := bxkeep hbF hSV5.1 hSV5.2
    clear hrF hbF
    go_wp2_with fail
    refine hK.out _ _ hSV6 (fun _ => ?_)
    clear hK K
    try simp only [Act.put, List.setIfInBounds_toArray, List.set_cons_zero, List.set_cons_succ]
    refine wpAnyH_ready (rs := [14]) (by kernel_rfl) (by simp) (AllReadyH.cons (o := ?o14z14g2) ?e14z14g2 (fun K hK => ?k14z14g2) AllReadyH.nil)
    case e14z14g2 => (simp only [List.getElem?_toArray, List.getElem?_cons_zero, List.getElem?_cons_succ]; rfl)
    go_simp
    have hcG := Same_c HREV6.out HRFV6.out hwX6 hwX6
    unfold SmQ at hcG
    rw [smJ_refl] at hcG
    (with_reducible refine hcG.mono ?_)
    clear hcG
    rintro e V7 ⟨rfl, hbG⟩
    have HBV7 : Hid (Up w V7) := Up.be HBV6.out hbG
    have HSV7 : Hid (Rep (Pz w.heap.size) V7 X (c6 xk xb xn xt xo xl xq xp xr xs) ∧ Rep (Pz w.heap.size) V7 Y (c6 yk yb yn yt yo yl yq yp yr ys)) := ⟨Rep.keep (Kep.of hbG) _ HSV6.out.1, Rep.keep (Kep.of hbG) _ HSV6.out.2⟩
    have HREV7 := Lib.hid (Rep.keep (Kep.of hbG) _ HREV6.out)
    have HRFV7 := Lib.hid (Rep.keep (Kep.of hbG) _ HRFV6.out)
    have hSV7 : (fun V => V.heap[w.heap.size]? = some (obR xk xb xn xt xo xl xq xp xr xs) ∧ V.heap[w.heap.size + 1]? = some (obR yk yb yn yt yo yl yq yp yr ys)) V7 := bxkeep hbG hSV6.1 hSV6.2
    clear hbG
    go_wp2_with fail
    refine hK.out _ _ hSV7 (fun _ => ?_)
    clear hK K
    try simp only [Act.put, List.setIfInBounds_toArray, List.set_cons_zero, List.set_cons_succ]
    refine wpAnyH_take (i := 15) (oi := ?o15g2) (v := ?v15g2) ?e15g2 ?a15g2 ?b15g2 ?c15g2 ?q15g2 (Or.inl ⟨?w15g2, ?h15g2⟩) ?s15g2 ?r15g2
    case e15g2 => (simp only [List.getElem?_toArray, List.getElem?_cons_zero, List.getElem?_cons_succ]; rfl)
    case a15g2 => kernel_rfl
    case b15g2 => kernel_rfl
    case c15g2 => kernel_rfl
    case q15g2 => exact fun _ _ _ h => h
    case w15g2 => rfl
    case s15g2 => assumption
    case h15g2 => (intro W hSw; obtain ⟨hSa, hSb⟩ := hSw; obtain ⟨a0, a1, a2, a3, a4, a5⟩ := cells6 hSa; obtain ⟨b0, b1, b2, b3, b4, b5⟩ := cells6 hSb; go_simp; try with_reducible rfl)
    try simp only [Act.put, List.setIfInBounds_toArray, List.set_cons_zero, List.set_cons_succ]
    refine wpAnyH_take (i := 16) (oi := ?o16g2) (v := ?v16g2) ?e16g2 ?a16g2 ?b16g2 ?c16g2 ?q16g2 (Or.inl ⟨?w16g2, ?h16g2⟩) ?s16g2 ?r16g2
    case e16g2 => (simp only [List.getElem?_toArray, List.getElem?_cons_zero, List.getElem?_cons_succ]; rfl)
    case a16g2 => kernel_rfl
    case b16g2 => kernel_rfl
    case c16g2 => kernel_rfl
    case q16g2 => exact fun _ _ _ h => h
    case w16g2 => rfl
    case s16g2 => assumption
    case h16g2 => (intro W hSw; obtain ⟨hSa, hSb⟩ := hSw; obtain ⟨a0, a1, a2, a3, a4, a5⟩ := cells6 hSa; obtain ⟨b0, b1, b2, b3, b4, b5⟩ := cells6 hSb; go_simp; try with_reducible rfl)
    try simp only [Act.put, List.setIfInBounds_toArray, List.set_cons_zero, List.set_cons_succ]
    refine wpAnyH_take (i := 17) (oi := ?o17g2) (v := ?v17g2) ?e17g2 ?a17g2 ?b17g2 ?c17g2 ?q17g2 (Or.inl ⟨?w17g2, ?h17g2⟩) ?s17g2 ?r17g2
    case e17g2 => (simp only [List.getElem?_toArray, List.getElem?_cons_zero, List.getElem?_cons_succ]; rfl)
    case a17g2 => kernel_rfl
    case b17g2 => kernel_rfl
    case c17g2 => kernel_rfl
    case q17g2 => exact fun _ _ _ h => h
    case w17g2 => rfl
    case s17g2 => assumption
    case h17g2 => (intro W hSw; obtain ⟨hSa, hSb⟩ := hSw; obtain ⟨a0, a1, a2, a3, a4, a5⟩ := cells6 hSa; obtain ⟨b0, b1, b2, b3, b4, b5⟩ := cells6 hSb; go_simp; try with_reducible rfl)
    try simp only [Act.put, List.setIfInBounds_toArray, List.set_cons_zero, List.set_cons_succ]
    refine wpAnyH_take (i := 20) (oi := ?o20g2) (v := ?v20g2) ?e20g2 ?a20g2 ?b20g2 ?c20g2 ?q20g2 (Or.inl ⟨?w20g2, ?h20g2⟩) ?s20g2 ?r20g2
    case e20g2 => (simp only [List.getElem?_toArray, List.getElem?_cons_zero, List.getElem?_cons_succ]; rfl)
    case a20g2 => kernel_rfl
    case b20g2 => kernel_rfl
    case c20g2 => kernel_rfl
    case q20g2 => exact fun _ _ _ h => h
    case w20g2 => rfl
    case s20g2 => assumption
    case h20g2 => (intro W hSw; obtain ⟨hSa, hSb⟩ := hSw; obtain ⟨a0, a1, a2, a3, a4, a5⟩ := cells6 hSa; obtain ⟨b0, b1, b2, b3, b4, b5⟩ := cells6 hSb; go_simp; try with_reducible rfl)
    try simp only [Act.put, List.setIfInBounds_toArray, List.set_cons_zero, List.set_cons_succ]
    refine wpAnyH_ready (rs := [18]) (by kernel_rfl) (by simp) (AllReadyH.cons (o := ?o18z18g2) ?e18z18g2 (fun K hK => ?k18z18g2) AllReadyH.nil)
    case e18z18g2 => (simp only [List.getElem?_toArray, List.getElem?_cons_zero, List.getElem?_cons_succ]; rfl)
    go_simp
    (with_reducible refine (Ours_c HSV7.out.1 hwX).mono ?_)
    rintro e V8 ⟨oHk, oHb, oHn, oHt, oHo, oHl, oHq, oHp, oHr, oHs, rfl, hrH, hbH⟩
    have HRHV8 := Lib.hid hrH
    have HBV8 : Hid (Up w V8) := Up.be HBV7.out hbH
    have HSV8 : Hid (Rep (Pz w.heap.size) V8 X (c6 xk xb xn xt xo xl xq xp xr xs) ∧ Rep (Pz w.heap.size) V8 Y (c6 yk yb yn yt yo yl yq yp yr ys)) := ⟨Rep.keep (Kep.of hbH) _ HSV7.out.1, Rep.keep (Kep.of hbH) _ HSV7.out.2⟩
    have hSV8 : (fun V => V.heap[w.heap.size]? = some (obR xk xb xn xt xo xl xq xp xr xs) ∧ V.heap[w.heap.size + 1]? = some (obR yk yb yn yt yo yl yq yp yr ys)) V8 := bxkeep hbH hSV7.1 hSV7.2
    clear hrH hbH
    go_wp2_with fail
    refine hK.out _ _ hSV8 (fun _ => ?_)
    clear hK K
    try simp only [Act.put, List.setIfInBounds_toArray, List.set_cons_zero, List.set_cons_succ]
    refine wpAnyH_ready (rs := [19]) (by kernel_rfl) (by simp) (AllReadyH.cons (o := ?o19z19g2) ?e19z19g2 (fun K hK => ?k19z19g2) AllReadyH.nil)
    case e19z19g2 => (simp only [List.getElem?_toArray, List.getElem?_cons_zero, List.getElem?_cons_succ]; rfl)
    go_simp
    have hcJ := Depth_c HRHV8.out hwX6 hdX
    try unfold DpQ at hcJ
    (with_reducible refine hcJ.mono ?_)
    clear hcJ
    rintro e V9 ⟨rfl, hbJ⟩
    have HBV9 : Hid (Up w V9) := Up.be HBV8.out hbJ
    have HSV9 : Hid (Rep (Pz w.heap.size) V9 X (c6 xk xb xn xt xo xl xq xp xr xs) ∧ Rep (Pz w.heap.size) V9 Y (c6 yk yb yn yt yo yl yq yp yr ys)) := ⟨Rep.keep (Kep.of hbJ) _ HSV8.out.1, Rep.keep (Kep.of hbJ) _ HSV8.out.2⟩
    have HRHV9 := Lib.hid (Rep.keep (Kep.of hbJ) _ HRHV8.out)
    have hSV9 : (fun V => V.heap[w.heap.size]? = some (obR xk xb xn xt xo xl xq xp xr xs) ∧ V.heap[w.heap.size + 1]? = some (obR yk yb yn yt yo yl yq yp yr ys)) V9 := bxkeep hbJ hSV8.1 hSV8.2
    clear hbJ
    go_wp2_with fail
    refine hK.out _ _ hSV9 (fun _ => ?_)
    clear hK K
    try simp only [Act.put, List.setIfInBounds_toArray, List.set_cons_zero, List.set_cons_succ]
    refine wpAnyH_ready (rs := [21]) (by kernel_rfl) (by simp) (AllReadyH.cons (o := ?o21z21g2) ?e21z21g2 (fun K hK => ?k21z21g2) AllReadyH.nil)
    case e21z21g2 => (simp only [List.getElem?_toArray, List.getElem?_cons_zero, List.getElem?_cons_succ]; rfl)
    go_simp
    have hcK := RDepth_c HSV9.out.1 hwX6 hdX
    try unfold DpQ at hcK
    (with_reducible refine hcK.mono ?_)
    clear hcK
    rintro e V10 ⟨rfl, hbK⟩
    have HBV10 : Hid (Up w V10) := Up.be HBV9.out hbK
    have HSV10 : Hid (Rep (Pz w.heap.size) V10 X (c6 xk xb xn xt xo xl xq xp xr xs) ∧ Rep (Pz w.heap.size) V10 Y (c6 yk yb yn yt yo yl yq yp yr ys)) := ⟨Rep.keep (Kep.of hbK) _ HSV9.out.1, Rep.keep (Kep.of hbK) _ HSV9.out.2⟩
    have hSV10 : (fun V => V.heap[w.heap.size]? = some (obR xk xb xn xt xo xl xq xp xr xs) ∧ V.heap[w.heap.size + 1]? = some (obR yk yb yn yt yo yl yq yp yr ys)) V10 := bxkeep hbK hSV9.1 hSV9.2
    clear hbK
    go_wp2_with fail
    refine hK.out _ _ hSV10 (fun _ => ?_)
    clear hK K
    try simp only [Act.put, List.setIfInBounds_toArray, List.set_cons_zero, List.set_cons_succ]
    refine wpAnyH_take (i := 22) (oi := ?o22g2) (v := ?v22g2) ?e22g2 ?a22g2 ?b22g2 ?c22g2 ?q22g2 (Or.inl ⟨?w22g2, ?h22g2⟩) ?s22g2 ?r22g2
    case e22g2 => (simp only [List.getElem?_toArray, List.getElem?_cons_zero, List.getElem?_cons_succ]; rfl)
    case a22g2 => kernel_rfl
    case b22g2 => kernel_rfl
    case c22g2 => kernel_rfl
    case q22g2 => exact fun _ _ _ h => h
    case w22g2 => rfl
    case s22g2 => assumption
    case h22g2 => (intro W hSw; obtain ⟨hSa, hSb⟩ := hSw; obtain ⟨a0, a1, a2, a3, a4, a5⟩ := cells6 hSa; obtain ⟨b0, b1, b2, b3, b4, b5⟩ := cells6 hSb; go_simp; try with_reducible rfl)
    try simp only [Act.put, List.setIfInBounds_toArray, List.set_cons_zero, List.set_cons_succ]
    try simp only [beq_self_eq_true]
    refine wpAnyH_take (i := 23) (oi := ?o23g2) (v := ?v23g2) ?e23g2 ?a23g2 ?b23g2 ?c23g2 ?q23g2 (Or.inl ⟨?w23g2, ?h23g2⟩) ?s23g2 ?r23g2
    case e23g2 => (simp only [List.getElem?_toArray, List.getElem?_cons_zero, List.getElem?_cons_succ]; rfl)
    case a23g2 => kernel_rfl
    case b23g2 => kernel_rfl
    case c23g2 => kernel_rfl
    case q23g2 => exact fun _ _ _ h => h
    case w23g2 => rfl
    case s23g2 => assumption
    case h23g2 => (intro W hSw; obtain ⟨hSa, hSb⟩ := hSw; obtain ⟨a0, a1, a2, a3, a4, a5⟩ := cells6 hSa; obtain ⟨b0, b1, b2, b3, b4, b5⟩ := cells6 hSb; go_simp; try with_reducible rfl)
    try simp only [Act.put, List.setIfInBounds_toArray, List.set_cons_zero, List.set_cons_succ]
    refine wpAnyH_take (i := 24) (oi := ?o24g2) (v := ?v24g2) ?e24g2 ?a24g2 ?b24g2 ?c24g2 ?q24g2 (Or.inl ⟨?w24g2, ?h24g2⟩) ?s24g2 ?r24g2
    case e24g2 => (simp only [List.getElem?_toArray, List.getElem?_cons_zero, List.getElem?_cons_succ]; rfl)
    case a24g2 => kernel_rfl
    case b24g2 => kernel_rfl
    case c24g2 => kernel_rfl
    case q24g2 => exact fun _ _ _ h => h
    case w24g2 => rfl
    case s24g2 => assumption
    case h24g2 => (intro W hSw; obtain ⟨hSa, hSb⟩ := hSw; obtain ⟨a0, a1, a2, a3, a4, a5⟩ := cells6 hSa; obtain ⟨b0, b1, b2, b3, b4, b5⟩ := cells6 hSb; go_simp; try with_reducible rfl)
    try simp only [Act.put, List.setIfInBounds_toArray, List.set_cons_zero, List.set_cons_succ]
    refine wpAnyH_ready (rs := [25]) (by kernel_rfl) (by simp) (AllReadyH.cons (o := ?o25z25g2) ?e25z25g2 (fun K hK => ?k25z25g2) AllReadyH.nil)
    case e25z25g2 => (simp only [List.getElem?_toArray, List.getElem?_cons_zero, List.getElem?_cons_succ]; rfl)
    go_simp
    have hcL := awake_c _ (Env.go HE.out HBV10.out.below)
    try unfold SmQ at hcL
    (with_reducible refine hcL.mono ?_)
    clear hcL
    rintro e V11 ⟨rfl, hbL⟩
    have HBV11 : Hid (Up w V11) := Up.be HBV10.out hbL
    have HSV11 : Hid (Rep (Pz w.heap.size) V11 X (c6 xk xb xn xt xo xl xq xp xr xs) ∧ Rep (Pz w.heap.size) V11 Y (c6 yk yb yn yt yo yl yq yp yr ys)) := ⟨Rep.keep (Kep.of hbL) _ HSV10.out.1, Rep.keep (Kep.of hbL) _ HSV10.out.2⟩
    have hSV11 : (fun V => V.heap[w.heap.size]? = some (obR xk xb xn xt xo xl xq xp xr xs) ∧ V.heap[w.heap.size + 1]? = some (obR yk yb yn yt yo yl yq yp yr ys)) V11 := bxkeep hbL hSV10.1 hSV10.2
    clear hbL
    go_wp2_with fail
    refine hK.out _ _ hSV11 (fun _ => ?_)
    clear hK K
    try simp only [Act.put, List.setIfInBounds_toArray, List.set_cons_zero, List.set_cons_succ]
    refine wpAnyH_take (i := 26) (oi := ?o26g2) (v := ?v26g2) ?e26g2 ?a26g2 ?b26g2 ?c26g2 ?q26g2 (Or.inl ⟨?w26g2, ?h26g2⟩) ?s26g2 ?r26g2
    case e26g2 => (simp only [List.getElem?_toArray, List.getElem?_cons_zero, List.getElem?_cons_succ]; rfl)
    case a26g2 => kernel_rfl
    case b26g2 => kernel_rfl
    case c26g2 => kernel_rfl
    case q26g2 => exact fun _ _ _ h => h
    case w26g2 => rfl
    case s26g2 => assumption
    case h26g2 => (intro W hSw; obtain ⟨hSa, hSb⟩ := hSw; obtain ⟨a0, a1, a2, a3, a4, a5⟩ := cells6 hSa; obtain ⟨b0, b1, b2, b3, b4, b5⟩ := cells6 hSb; go_simp; try with_reducible rfl)
    try simp only [Act.put, List.setIfInBounds_toArray, List.set_cons_zero, List.set_cons_succ]
    refine wpAnyH_take (i := 27) (oi := ?o27g2) (v := ?v27g2) ?e27g2 ?a27g2 ?b27g2 ?c27g2 ?q27g2 (Or.inl ⟨?w27g2, ?h27g2⟩) ?s27g2 ?r27g2
    case e27g2 => (simp only [List.getElem?_toArray, List.getElem?_cons_zero, List.getElem?_cons_succ]; rfl)
    case a27g2 => kernel_rfl
    case b27g2 => kernel_rfl
    case c27g2 => kernel_rfl
    case q27g2 => exact fun _ _ _ h => h
    case w27g2 => rfl
    case s27g2 => assumption
    case h27g2 => (intro W hSw; obtain ⟨hSa, hSb⟩ := hSw; obtain ⟨a0, a1, a2, a3, a4, a5⟩ := cells6 hSa; obtain ⟨b0, b1, b2, b3, b4, b5⟩ := cells6 hSb; go_simp; try with_reducible rfl)
    try simp only [Act.put, List.setIfInBounds_toArray, List.set_cons_zero, List.set_cons_succ]
    refine wpAnyH_done (by kernel_rfl) ?_ _
    go_wp2
    go_ret
    exact ⟨rfl, HBV11.out.below⟩
end Go.Proofs.YtkphainopofejaaDoor.Jv
