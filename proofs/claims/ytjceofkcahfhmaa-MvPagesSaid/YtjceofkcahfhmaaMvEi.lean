/- The law's step: Compact; no other condition. -/
import Derived.Test.YtjceofkcahfhmaaMvEh
namespace Go.Proofs.Ytjceofkcahfhmaa.Mv
open Go.RowKit Go.Lib Go.Maps Go.Shelf Go.Sort
open Go.Proofs.Ytjceofkcahfhmaa.Cn
set_option linter.unusedSimpArgs false
set_option linter.unusedVariables false

theorem Aft.of {Z : Nat → Prop} {c r n : Nat} {l0 l9 : Int} {X : Sx} {w V w' : World} (h : Aft Z c r l0 l9 n X V w') (hb : Fr (fun k => ¬ Z k) w V) : Aft Z c r l0 l9 n X w w' := by
  obtain ⟨X', h1, h2, h3⟩ := h
  exact ⟨X', h1, h2, hb.trans h3 (fun j hj => .inl hj)⟩
set_option maxRecDepth 100000 in
set_option maxHeartbeats 4000000 in
theorem step_3 {Z : Nat → Prop} {c r n : Nat} {l0 l9 : Int} {X : Sx} {w : World} (hj : Jn Z c r l0 l9 n X w) (hn : n ≤ 39) (hZ : ∀ k, Z k → k < w.heap.size) (ao : Option Addr) (m cap : Nat) (rv nn : Int) (ky pf : ByteArray) :
    Calls Try.prog 8 #[.pointer (some ⟨c, 0, none⟩), .pointer (some ⟨r, 0, none⟩), .agg #[.int .i64 3, .slice ao m cap, .int .i64 rv, .string ky, .string pf, .int .i64 nn]] w fun e w' => e = .returned (.bool true) ∧ Aft Z c r l0 l9 n X w w' := by
  obtain ⟨W0, hW0, hk0, hb0⟩ := new6 w (.int .i64 3) (.slice ao m cap) (.int .i64 rv) (.string ky) (.string pf) (.int .i64 nn) 31
  have hwl : w.heap.size < W0.heap.size := (Array.getElem?_eq_some_iff.1 hk0).1
  obtain ⟨hp, N, mb, od, F, G, hN, hJw⟩ := hj
  have hbd : Below w.heap.size w W0.drew := hb0.trans ((bdr W0).mono hb0.size)
  have HBD : Hid (Fr (fun k => ¬ Z k) w W0.drew) := Fr.below hbd
  have HC := Lib.hid (cp_both hp hn hN (hJw.go hbd) (fun k hk => Nat.lt_of_lt_of_le (hZ k hk) hbd.size) rv)
  have hno : ¬ Owd c mb X.f od w.heap.size := fun e => by have := owd_lt hJw.is hJw.ok e; omega
  have HK0 : Hid (W0.drew.heap[w.heap.size]? = some (.cells #[.int .i64 3, .slice ao m cap, .int .i64 rv, .string ky, .string pf, .int .i64 nn] 31 (0, 0))) := hk0
  have hwl2 : w.heap.size < W0.drew.heap.size := hwl
  have HW0 := Lib.hid hW0
  obtain ⟨c0, c1, c2, c3, c4, c5⟩ := cells6 hk0
  clear hW0 hk0 hb0 hp hJw hbd hwl
  generalize cpE X.fl X.rev rv = er at HC
  go_enter Try.func8, Try.ntmps8
  go_upto_region 1 with (fail)
  rw [← HW0.out]
  go_upto_region 13 with (fail)
  go_region_with (first | (go_at_call 23; (with_reducible refine HC.out.mono ?_); rintro e w1 ⟨rfl, hf1, hc1⟩; have HC1 := Lib.hid hc1; obtain ⟨k0, k1, k2, k3, k4, k5⟩ := cells6 ((hf1.block _ hwl2 hno).trans HK0.out); clear hf1 hc1) | (go_at_call 24; (with_reducible refine HC1.out.mono ?_); rintro e w2 ⟨rfl, ha⟩; have HA2 := Lib.hid ha; clear ha))
  all_goals
    go_wp2
    go_ret
    exact ⟨rfl, HA2.out.of HBD.out⟩
set_option maxRecDepth 100000 in
set_option maxHeartbeats 4000000 in
theorem step_4 {Z : Nat → Prop} {c r n : Nat} {l0 l9 : Int} {X : Sx} {w : World} (hj : Jn Z c r l0 l9 n X w) (hn : n ≤ 39) (hZ : ∀ k, Z k → k < w.heap.size) (ao : Option Addr) (m cap : Nat) (rv nn : Int) (ky pf : ByteArray) :
    Calls Try.prog 8 #[.pointer (some ⟨c, 0, none⟩), .pointer (some ⟨r, 0, none⟩), .agg #[.int .i64 4, .slice ao m cap, .int .i64 rv, .string ky, .string pf, .int .i64 nn]] w fun e w' => e = .returned (.bool true) ∧ Aft Z c r l0 l9 n X w w' := by
  obtain ⟨W0, hW0, hk0, hb0⟩ := new6 w (.int .i64 4) (.slice ao m cap) (.int .i64 rv) (.string ky) (.string pf) (.int .i64 nn) 31
  have hwl : w.heap.size < W0.heap.size := (Array.getElem?_eq_some_iff.1 hk0).1
  obtain ⟨hp, N, mb, od, F, G, hN, hJw⟩ := hj
  have hJ := hJw.go hb0
  have HB0 : Hid (Fr (fun k => ¬ Z k) w W0) := Fr.below hb0
  have hA := hp.refA (by omega)
  have HRV : Hid (∀ V, Below W0.heap.size W0 V → Calls Try.prog 10 #[.pointer (some ⟨r, 0, none⟩)] V fun e w' => e = .returned (.int .i64 X.rev) ∧ w' = V) := fun V hV => by
    have := Rev_r (hJ.rf.go hV) (by omega)
    rw [hp.hA] at this
    exact this
  have HC : Hid (∀ V q, Below W0.heap.size W0 V → Calls Try.prog 23 #[.pointer (some ⟨c, 0, none⟩), .int .i64 q] V fun e w1 => e = .returned (.int .i64 (cpE X.fl X.rev q)) ∧ Fr (Owd c mb X.f od) V w1 ∧ Calls Try.prog 24 #[.pointer (some ⟨r, 0, none⟩), .int .i64 q] w1 fun e w2 => e = .returned (.int .i64 (cpE X.fl X.rev q)) ∧ Aft Z c r l0 l9 n X V w2) := fun V q hV => cp_both hp hn hN (hJ.go hV) (fun k hk => Nat.lt_of_lt_of_le (hZ k hk) (Nat.le_trans hb0.size hV.size)) q
  obtain ⟨vA, vN, vC, cs, hr1, _⟩ := hJ.rf.ex
  obtain ⟨r0, r1, r2, r3, r4, r5⟩ := cells6 hr1
  obtain ⟨c0, c1, c2, c3, c4, c5⟩ := cells6 hk0
  have g0 := hp.h0
  have g1 := hp.h1
  have g2 := hp.b1
  have HW0 := Lib.hid hW0
  have HRQ : Hid (∀ m, Calls Try.prog 10 #[.pointer (some ⟨r, 0, none⟩)] (W0.drewN m) fun e w' => e = .returned (.int .i64 X.rev) ∧ w' = W0.drewN m) := fun m => HRV.out _ (bdrN W0 m)
  clear hW0 hk0 hb0 hp hJw hwl hJ hr1
  by_cases hpos : rv > 0
  · have hpos' : 0 < rv := hpos
    have t0 : 0 ≤ rv.tmod (X.rev - X.fl + 1) := Int.tmod_nonneg _ (by omega)
    have t1 : rv.tmod (X.rev - X.fl + 1) < X.rev - X.fl + 1 := Int.tmod_lt_of_pos _ (by omega)
    have s1 : IntKind.i64.wrap (X.rev - X.fl) = X.rev - X.fl := IntWalk.i64_in _ (by omega)
    have s2 : IntKind.i64.wrap (X.rev - X.fl + 1) = X.rev - X.fl + 1 := IntWalk.i64_in _ (by omega)
    have s3 : ¬ (X.rev - X.fl + 1 = 0) := by omega
    have s4 : IntKind.i64.wrap (rv.tmod (X.rev - X.fl + 1)) = rv.tmod (X.rev - X.fl + 1) := IntWalk.i64_in _ (by omega)
    have s5 : IntKind.i64.wrap (X.fl + rv.tmod (X.rev - X.fl + 1)) = X.fl + rv.tmod (X.rev - X.fl + 1) := IntWalk.i64_in _ (by omega)
    have HC2 := Lib.hid (fun m q => HC.out (W0.drewN m) q (bdrN W0 m))
    have HBM : Hid (∀ m, Fr (fun k => ¬ Z k) w (W0.drewN m)) := fun m => HB0.out.trans (Fr.below (E := fun k => ¬ Z k) (bdrN W0 m)) (fun j hj => .inl hj)
    clear HC
    go_enter Try.func8, Try.ntmps8
    go_upto_region 1 with (fail)
    rw [← HW0.out]
    go_upto_region 17 with (fail)
    go_quiet ((go_at_call 10; exact Calls.quiet_of_same (HRQ.out _)))
    go_upto_region 18 with (fail)
    go_wp2_with (first | (go_at_call 23; (with_reducible refine (HC2.out _ _).mono ?_); rintro e w1 ⟨rfl, hf1, hc1⟩; have HC1 := Lib.hid hc1; clear hf1 hc1) | (go_at_call 24; (with_reducible refine HC1.out.mono ?_); rintro e w2 ⟨rfl, ha⟩; have HA2 := Lib.hid ha; clear ha))
    go_ret
    exact ⟨rfl, HA2.out.of (HBM.out nq)⟩
  · have HC0 := Lib.hid (HC.out W0 X.fl (Below.refl _ _))
    generalize cpE X.fl X.rev X.fl = er at HC0
    clear HC
    go_enter Try.func8, Try.ntmps8
    go_upto_region 1 with (fail)
    rw [← HW0.out]
    go_upto_region 18 with (fail)
    go_wp2_with (first | (go_at_call 23; go_loud (refine HC0.out.mono ?_); rintro e w1 ⟨rfl, hf1, hc1⟩; have HC1 := Lib.hid hc1; clear hf1 hc1) | (go_at_call 24; go_loud (refine HC1.out.mono ?_); rintro e w2 ⟨rfl, ha⟩; have HA2 := Lib.hid ha; clear ha))
    go_ret
    exact ⟨rfl, HA2.out.of HB0.out⟩
end Go.Proofs.Ytjceofkcahfhmaa.Mv
