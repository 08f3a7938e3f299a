/- Contracts of the library's Equal at pairs, of package label's Same and Len: for few pairs; no other condition. -/
import Derived.Test.YtjgbfpkjkglfnaaDoorLbC
import Derived.Laws.StructEq
namespace Go.Proofs.YtjgbfpkjkglfnaaDoor.Lb
open Go.RowKit Ch Jt
set_option linter.unusedSimpArgs false
set_option linter.unusedVariables false

theorem neqP (a b c d : ByteArray) (W : World) : (binOp .neq 52 (.agg #[.string a, .string b]) (.agg #[.string c, .string d])).run Tryd.prog W = .ok (.bool (!decide (a.data.toList = c.data.toList ∧ b.data.toList = d.data.toList))) W := by
  have u9 := Tryd.underlying9
  have hS : Tryd.prog.underlying 52 = some (.struct (Tryd.prog.fieldsOf 52)) := by kernel_rfl
  have hp : Tryd.prog.stoodInHeld 52 = false := by kernel_rfl
  rw [run_neq_struct, show (10000 : Nat) = 9999 + 1 from rfl, run_equalIn_agg W 9999 52 _ _ hS hp]
  simp only [Program.fieldsOf, Tryd.underlying52]
  go_simp
  simp only [Lib.toList_data]
  by_cases h1 : a.data = c.data <;> by_cases h2 : b.data = d.data <;> simp [h1, h2]
theorem ba_ext {a b : ByteArray} (h : a.data.toList = b.data.toList) : a = b := by
  obtain ⟨⟨a⟩⟩ := a
  obtain ⟨⟨b⟩⟩ := b
  have h' : a = b := h
  rw [h']
theorem fb_eq (x y : FB) : (x.1.data.toList = y.1.data.toList ∧ x.2.data.toList = y.2.data.toList) ↔ x = y := by
  constructor
  · rintro ⟨h1, h2⟩
    obtain ⟨a, b⟩ := x
    obtain ⟨c, d⟩ := y
    have e1 : a = c := ba_ext h1
    have e2 : b = d := ba_ext h2
    rw [e1, e2]
  · rintro rfl; exact ⟨rfl, rfl⟩
theorem rdf_at2 {ao : Option Addr} {cap n : Nat} {gs : List FB} {w : World} (h : RdF (.slice ao n cap) gs w) (h0 : 0 < gs.length) : ∃ g off, ao = some ⟨g, off, none⟩ ∧ g < w.heap.size ∧ ∀ i (hi : i < gs.length), w.cell? ⟨g, off + i * 2, none⟩ = some (.string gs[i].1) ∧ w.cell? ⟨g, off + i * 2 + 1, none⟩ = some (.string gs[i].2) := by
  obtain ⟨ao', cp, e, hh⟩ := h
  injection e with ea eb ec
  subst ea
  exact hh h0
set_option maxRecDepth 100000 in
set_option maxHeartbeats 4000000 in
theorem eqs_c (a1 a2 : Option Addr) (c1 c2 : Nat) (xs ys : List FB) (w : World) (hA : RdF (.slice a1 xs.length c1) xs w) (hB : RdF (.slice a2 ys.length c2) ys w) (hm : xs.length ≤ 1000) (hm2 : ys.length ≤ 1000) :
    Calls Tryd.prog 41 #[.slice a1 xs.length c1, .slice a2 ys.length c2] w fun e w' => e = .returned (.bool (decide (xs = ys))) ∧ Below w.heap.size w w' := by
  have HA := Lib.hid hA
  have HB := Lib.hid hB
  clear hA hB
  by_cases hl : xs.length = ys.length
  · rw [← hl] at HB ⊢
    have HL := Lib.hid hl
    clear hl hm2
    go_enter Tryd.func41, Tryd.ntmps41
    go_wp2
    go_loopw [13] (fun v wr => ∃ j : Nat, j ≤ xs.length ∧ v = .int .i64 j ∧ Hid (∀ i (h : i < xs.length) (h2 : i < ys.length), i < j → xs[i] = ys[i]) ∧ Hid (Below w.heap.size w wr)) (fun v _ => xs.length - (intOf v).toNat)
    case atStart => exact ⟨0, by omega, rfl, Lib.hid (fun i _ _ h => absurd h (Nat.not_lt_zero _)), Lib.hid (Below.refl _ _)⟩
    case round =>
      obtain ⟨j, hj, rfl, HE, HBW⟩ := hrel
      by_cases hlt : j < xs.length
      · have hlt2 : j < ys.length := by have := HL.out; omega
        obtain ⟨g1, o1, rfl, hg1, hat1⟩ := rdf_at2 (HA.out.go HBW.out) (by omega)
        obtain ⟨g2, o2, rfl, hg2, hat2⟩ := rdf_at2 (HB.out.go HBW.out) (by omega)
        obtain ⟨p0, p1⟩ := hat1 j hlt
        obtain ⟨q0, q1⟩ := hat2 j hlt2
        have hj0 : (0 : Int) ≤ (j : Int) := by omega
        have hjl : (j : Int) < (xs.length : Int) := by omega
        have hN := fun W => neqP xs[j].1 xs[j].2 ys[j].1 ys[j].2 W
        clear hat1 hat2
        by_cases heq : xs[j] = ys[j]
        · have HE2 : Hid (∀ i (h : i < xs.length) (h2 : i < ys.length), i < j + 1 → xs[i] = ys[i]) := fun i h h2 hh => by
            rcases Nat.lt_succ_iff_lt_or_eq.1 hh with g | g
            · exact HE.out i h h2 g
            · subst g; exact heq
          rw [decide_eq_true ((fb_eq xs[j] ys[j]).2 heq)] at hN
          clear heq
          revert p0 p1 q0 q1 hN
          generalize xs[j].1 = xa
          generalize xs[j].2 = xb
          generalize ys[j].1 = ya
          generalize ys[j].2 = yb
          intro p0 p1 q0 q1 hN
          have hng : g1 ≠ wr.heap.size := by omega
          have hng2 : g2 ≠ wr.heap.size := by omega
          go_wp2_with fail
          go_quiet (fail)
          go_wp2
          go_roundw
          case rel => exact ⟨j + 1, by omega, by go_num, HE2, Lib.hid (HBW.out.trans ((bdrN wr _).mono HBW.out.size))⟩
          case measure => simp [intOf]; omega
        · have HNE : Hid (xs ≠ ys) := fun e => heq (by subst e; rfl)
          rw [decide_eq_false (fun hh => heq ((fb_eq xs[j] ys[j]).1 hh))] at hN
          clear heq
          revert p0 p1 q0 q1 hN
          generalize xs[j].1 = xa
          generalize xs[j].2 = xb
          generalize ys[j].1 = ya
          generalize ys[j].2 = yb
          intro p0 p1 q0 q1 hN
          go_wp2_with fail
          go_quiet (fail)
          go_wp2
          go_ret
          exact ⟨Ch.ret_bool (decide_eq_false HNE.out).symm, HBW.out.trans ((bdrN wr _).mono HBW.out.size)⟩
      · have HEQ : Hid (xs = ys) := List.ext_getElem HL.out (fun i h h2 => HE.out i h h2 (by omega))
        go_wp2
        go_ret
        exact ⟨Ch.ret_bool (decide_eq_true HEQ.out).symm, HBW.out⟩
  · have HNE : Hid (xs ≠ ys) := fun e => hl (by subst e; rfl)
    have h1 : ((xs.length : Int) == (ys.length : Int)) = false := beq_eq_false_iff_ne.2 (by omega)
    have h2 : ¬ (xs.length : Int) = (ys.length : Int) := by omega
    go_enter Tryd.func41, Tryd.ntmps41
    go_wp2
    go_ret
    exact ⟨Ch.ret_bool (decide_eq_false HNE.out).symm, Below.refl _ _⟩
set_option maxRecDepth 100000 in
set_option maxHeartbeats 4000000 in
theorem Same_c (a1 a2 : Option Addr) (c1 c2 : Nat) (xs ys : List FB) (w : World) (hA : RdF (.slice a1 xs.length c1) xs w) (hB : RdF (.slice a2 ys.length c2) ys w) (hm : xs.length ≤ 1000) (hm2 : ys.length ≤ 1000) :
    Calls Tryd.prog 22 #[.agg #[.slice a1 xs.length c1], .agg #[.slice a2 ys.length c2]] w fun e w' => e = .returned (.bool (decide (xs = ys))) ∧ Below w.heap.size w w' := by
  have hb1 := (Below.refl w.heap.size w).alloc (Nat.le_refl _) (.cells #[.slice a1 xs.length c1] 27)
  have hb2 := hb1.alloc hb1.size (.cells #[.slice a2 ys.length c2] 27)
  have HS := Lib.hid (eqs_c a1 a2 c1 c2 xs ys _ (hA.go hb2) (hB.go hb2) hm hm2)
  have HB2 := Lib.hid hb2
  clear hb1 hb2 hA hB
  generalize decide (xs = ys) = r at HS ⊢
  go_enter Tryd.func22, Tryd.ntmps22
  go_wp2_with fail
  refine HS.out.mono ?_
  rintro e w2 ⟨rfl, hb⟩
  have HB3 : Hid (Below w.heap.size w w2) := HB2.out.trans (hb.mono HB2.out.size)
  clear hb
  go_wp2
  go_ret
  exact ⟨rfl, HB3.out⟩
set_option maxRecDepth 100000 in
set_option maxHeartbeats 4000000 in
theorem Len_c (a1 : Option Addr) (n c1 : Nat) (w : World) (hm : n ≤ 9223372036854775807) :
    Calls Tryd.prog 11 #[.agg #[.slice a1 n c1]] w fun e w' => e = .returned (.int .i64 (n : Int)) ∧ Below w.heap.size w w' := by
  have HB2 := Lib.hid ((Below.refl w.heap.size w).alloc (Nat.le_refl _) (.cells #[.slice a1 n c1] 27))
  go_enter Tryd.func11, Tryd.ntmps11
  go_wp2
  go_ret
  exact ⟨rfl, HB2.out⟩
end Go.Proofs.YtjgbfpkjkglfnaaDoor.Lb
