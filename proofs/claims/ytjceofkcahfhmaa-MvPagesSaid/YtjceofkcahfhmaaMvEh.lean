/- The law's step: Get, Range, and what is no call; no other condition. -/
import Derived.Test.YtjceofkcahfhmaaMvEg
namespace Go.Proofs.Ytjceofkcahfhmaa.Mv
open Go.RowKit Go.Lib Go.Maps Go.Shelf Go.Sort
open Go.Proofs.Ytjceofkcahfhmaa.Cn
set_option linter.unusedSimpArgs false
set_option linter.unusedVariables false

theorem new6 (w : World) (a0 a1 a2 a3 a4 a5 : Value) (T : TypeId) : ∃ W, W = w.alloc (.cells #[a0, a1, a2, a3, a4, a5] T) ∧ W.heap[w.heap.size]? = some (.cells #[a0, a1, a2, a3, a4, a5] T (0, 0)) ∧ Below w.heap.size w W := ⟨_, rfl, heap_alloc_new w _, (Below.refl _ _).alloc (Nat.le_refl _) _⟩
theorem rgD_len (p a : ByteArray) (n : Int) : ∀ (L acc : List ItT), (rgD p a n L acc).1.length ≤ L.length + acc.length
  | [], acc => by unfold rgD; simp
  | x :: xs, acc => by
    unfold rgD
    split
    · have := rgD_len p a n xs acc; rw [List.length_cons]; omega
    · split
      · rw [List.length_cons]; show acc.length ≤ _; omega
      · have := rgD_len p a n xs (acc ++ [x]); rw [List.length_append, List.length_cons, List.length_nil] at this; rw [List.length_cons]; omega
theorem rgW_len {n : Nat} {X : Sx} (h : Pln n X) (p a : ByteArray) (m q : Int) : (rgW X.A X.fl p a m q).1.length ≤ 6 * n := by
  unfold rgW
  split
  · exact Nat.zero_le _
  · have h1 := rgD_len p a m (X.A.getD q.toNat []) []
    have h2 : (X.A.getD q.toNat []).length ≤ 6 * n := by
      rw [List.getD_eq_getElem?_getD]
      cases hg : X.A[q.toNat]? with
      | none => simp
      | some L => exact (h.b5 L (List.mem_of_getElem? hg)).1
    simp only [List.length_nil] at h1
    show (rgD p a m (X.A.getD q.toNat []) []).1.length ≤ _
    omega
set_option maxRecDepth 100000 in
set_option maxHeartbeats 4000000 in
theorem step_5 {Z : Nat → Prop} {c r n : Nat} {l0 l9 : Int} {X : Sx} {w : World} (hj : Jn Z c r l0 l9 n X w) (hn : n ≤ 39) (hZ : ∀ k, Z k → k < w.heap.size) (ao : Option Addr) (m cap : Nat) (rv nn : Int) (ky pf : ByteArray) (hky : ky.size ≤ maxLen) :
    Calls Try.prog 8 #[.pointer (some ⟨c, 0, none⟩), .pointer (some ⟨r, 0, none⟩), .agg #[.int .i64 5, .slice ao m cap, .int .i64 rv, .string ky, .string pf, .int .i64 nn]] w fun e w' => e = .returned (.bool true) ∧ Aft Z c r l0 l9 n X w w' := by
  obtain ⟨W0, hW0, hk0, hb0⟩ := new6 w (.int .i64 5) (.slice ao m cap) (.int .i64 rv) (.string ky) (.string pf) (.int .i64 nn) 31
  have hwl : w.heap.size < W0.heap.size := (Array.getElem?_eq_some_iff.1 hk0).1
  obtain ⟨hp, N, mb, od, F, G, hN, hJ⟩ := hj.go hb0
  have HJ := Lib.hid hj
  have HW0 := Lib.hid hW0
  have HK0 := Lib.hid hk0
  have HB0 := Lib.hid hb0
  have HG := Lib.hid (Get_c hJ.is (by omega) hky rv)
  have hA := hp.refA (by omega)
  have HGR : Hid (∀ V, Below W0.heap.size W0 V → Calls Try.prog 26 #[.pointer (some ⟨r, 0, none⟩), .string ky, .int .i64 rv] V fun e w' => e = .returned (.tuple #[aggI (getD' X.A X.fl ky rv).1, .int .i64 (getD' X.A X.fl ky rv).2]) ∧ Below V.heap.size V w') := fun V hV => GetR_c (hJ.rf.go hV) (by omega) (fun x hx => by have := (hp.b5 x hx).1; omega) ky rv
  rw [get_eq hp.hA hp.tl hp.h0 ky] at HG
  obtain ⟨⟨⟨x0, x1, x2⟩, er⟩, hg⟩ : ∃ y, getD' X.A X.fl ky rv = y := ⟨_, rfl⟩
  rw [hg] at HG HGR
  unfold aggI at HG HGR
  dsimp only at HG HGR
  obtain ⟨c0, c1, c2, c3, c4, c5⟩ := cells6 hk0
  have hE : ∀ W : World, (binOp .eql 49 (.agg #[.string x0, .string x1, .int .i64 x2]) (.agg #[.string x0, .string x1, .int .i64 x2])).run Try.prog W = .ok (.bool true) W := fun W => eqIs .eql (x0, x1, x2) W (.inl rfl)
  clear hW0 hk0 hb0 hg hJ hp hj
  go_enter Try.func8, Try.ntmps8
  go_upto_region 1 with (fail)
  rw [← HW0.out]
  go_upto_region 21 with (go_at_call 25; (with_reducible refine HG.out.mono ?_); rintro e w1 ⟨rfl, hb1⟩; have HB1 := Lib.hid hb1; clear hb1)
  clear c0 c1 c2 c3 c4 c5
  obtain ⟨W2, hW2, hk2, hb2⟩ := Cn.new3 w1 (.string x0) (.string x1) (.int .i64 x2) 49
  have hwl1 : w.heap.size < w1.heap.size := Nat.lt_of_lt_of_le hwl HB1.out.size
  have hwl2 : w1.heap.size < W2.heap.size := (Array.getElem?_eq_some_iff.1 hk2).1
  obtain ⟨c0, c1, c2, c3, c4, c5⟩ := cells6 ((hb2.block _ hwl1).trans ((HB1.out.block _ hwl).trans HK0.out))
  have HGR2 := Lib.hid (HGR.out W2 (btr HB1.out hb2))
  have HB2 : Hid (Below w.heap.size w W2) := btr HB0.out (btr HB1.out hb2)
  have HK2 := Lib.hid hk2
  rw [← hW2]
  clear hW2 hk2 hb2
  go_upto_region 22 with (go_at_call 26; (with_reducible refine HGR2.out.mono ?_); rintro e w3 ⟨rfl, hb3⟩; have HB3 := Lib.hid hb3; clear hb3)
  clear c0 c1 c2 c3 c4 c5
  obtain ⟨W4, hW4, hk4, hb4⟩ := Cn.new3 w3 (.string x0) (.string x1) (.int .i64 x2) 66
  have hwl3 : w1.heap.size < w3.heap.size := Nat.lt_of_lt_of_le hwl2 HB3.out.size
  obtain ⟨d0, d1, d2⟩ := Cn.cells3 hk4
  obtain ⟨q0, q1, q2⟩ := Cn.cells3 ((hb4.block _ hwl3).trans ((HB3.out.block _ hwl2).trans HK2.out))
  have HB4 : Hid (Below w.heap.size w W4) := btr HB2.out (btr HB3.out hb4)
  rw [← hW4]
  clear hW4 hk4 hb4
  go_wp2
  go_ret
  exact ⟨rfl, X, (HJ.out.go HB4.out).up, Grw.refl X, Fr.below HB4.out⟩
set_option maxRecDepth 100000 in
set_option maxHeartbeats 4000000 in
theorem step_6 {Z : Nat → Prop} {c r n : Nat} {l0 l9 : Int} {X : Sx} {w : World} (hj : Jn Z c r l0 l9 n X w) (hn : n ≤ 39) (hZ : ∀ k, Z k → k < w.heap.size) (ao : Option Addr) (m cap : Nat) (rv nn : Int) (ky pf : ByteArray) :
    Calls Try.prog 8 #[.pointer (some ⟨c, 0, none⟩), .pointer (some ⟨r, 0, none⟩), .agg #[.int .i64 6, .slice ao m cap, .int .i64 rv, .string ky, .string pf, .int .i64 nn]] w fun e w' => e = .returned (.bool true) ∧ Aft Z c r l0 l9 n X w w' := by
  obtain ⟨W0, hW0, hk0, hb0⟩ := new6 w (.int .i64 6) (.slice ao m cap) (.int .i64 rv) (.string ky) (.string pf) (.int .i64 nn) 31
  have hwl : w.heap.size < W0.heap.size := (Array.getElem?_eq_some_iff.1 hk0).1
  obtain ⟨hp, N, mb, od, F, G, hN, hJw⟩ := hj
  have hJ := hJw.go hb0
  have HJ := Lib.hid hJ
  have HP := Lib.hid hp
  have HW0 := Lib.hid hW0
  have HK0 := Lib.hid hk0
  have HB0 := Lib.hid hb0
  have hA := hp.refA (by omega)
  have hK2 := hp.b2
  have HG := Lib.hid (Range_c hJ.is (by omega) hp.dm (by omega) (fun k hk => (hp.kn k hk).2) hJ.ok pf ky nn rv)
  unfold RgQ at HG
  have HGR : Hid (∀ V, IsR F G r X.A (max l0 1) (max l9 1) X.fl X.Ns X.Cs V → Calls Try.prog 27 #[.pointer (some ⟨r, 0, none⟩), .string pf, .string ky, .int .i64 nn, .int .i64 rv] V fun e w' => ∃ v, e = .returned (.tuple #[v, .bool (rgW X.A X.fl pf ky nn rv).2.1, .int .i64 (rgW X.A X.fl pf ky nn rv).2.2]) ∧ OwJ V.heap.size v (rgW X.A X.fl pf ky nn rv).1 w' ∧ Below V.heap.size V w') := fun V hV => RangeR_c hV (by omega) (fun x hx => ⟨by have := (hp.b5 x hx).1; omega, (hp.b5 x hx).2⟩) pf ky nn rv
  rw [range_eq hp.hA hp.tl hp.h0 hp.dm (fun k hk => (hp.kn k hk).1) pf ky nn rv] at HG
  have hLn := rgW_len hp pf ky nn rv
  obtain ⟨⟨L, bb, er⟩, hg⟩ : ∃ y, rgW X.A X.fl pf ky nn rv = y := ⟨_, rfl⟩
  rw [hg] at HG HGR hLn
  dsimp only at HG HGR hLn
  obtain ⟨c0, c1, c2, c3, c4, c5⟩ := cells6 hk0
  have hcw : c < w.heap.size := owd_lt hJw.is hJw.ok (.inl (.inl rfl))
  have hcn : w.heap.size ≠ c := by omega
  clear hW0 hk0 hb0 hg hJ hp hJw
  go_enter Try.func8, Try.ntmps8
  go_upto_region 1 with (fail)
  rw [← HW0.out]
  go_upto_region 25 with (go_at_call 15; (with_reducible refine HG.out.mono ?_); rintro e w1 ⟨v1, od', M, rfl, hM, hoM, ho1, hi1, hd1, hf1, hn1⟩; obtain ⟨a1, p1, e1⟩ := own_form ho1; subst e1; have HO1 := Lib.hid ho1; have HI1 := Lib.hid hi1; have HD1 := Lib.hid hd1; have HF1 := Lib.hid hf1; have HN1 := Lib.hid hn1; clear ho1 hi1 hd1 hf1 hn1 hM hoM)
  clear c0 c1 c2 c3 c4 c5
  obtain ⟨c0, c1, c2, c3, c4, c5⟩ := cells6 ((HF1.out.block _ hwl hcn).trans HK0.out)
  have HR1 := Lib.hid (HJ.out.rf.kept HF1.out (fun k hk e => (HJ.out.gs k hk).2 (.inl (.inl e))))
  have HGR1 := Lib.hid (HGR.out w1 HR1.out)
  go_upto_region 26 with (go_at_call 27; (with_reducible refine HGR1.out.mono ?_); rintro e w2 ⟨v2, rfl, ho2, hb2⟩; obtain ⟨a2, p2, e2⟩ := own_form ho2; subst e2; have HO2 := Lib.hid ho2; have HB2 := Lib.hid hb2; clear ho2 hb2)
  clear c0 c1 c2 c3 c4 c5
  have HSM := Lib.hid (Same_c (OwI.rd (OwI.go HO1.out HB2.out)) (OwJ.rd (F := fun _ => True) HO2.out (fun _ _ _ => trivial)) (by omega))
  go_wp2_with (go_at_call 16; (with_reducible refine HSM.out.mono ?_); rintro e w3 ⟨rfl, hb3⟩; have HB3 := Lib.hid hb3; clear hb3)
  go_ret
  have hb13 : Below w1.heap.size w1 w3 := btr HB2.out HB3.out
  obtain ⟨j1, j2⟩ := HJ.out.join X HI1.out HD1.out (HF1.out.mono (fun k e => .inl (.inl e))) (fun k hk => .inl hk) HN1.out ((HR1.out.go hb13).wide (fun k hk => .inl hk)) (Fr.below hb13) (fun k hk => Nat.lt_of_lt_of_le (hZ k hk) HB0.out.size)
  exact ⟨rfl, X, Jn.up ⟨HP.out, N, mb, _, _, _, hN, j1⟩, Grw.refl X, (Fr.below HB0.out).trans j2 (fun j hj => .inl hj)⟩
set_option maxRecDepth 100000 in
set_option maxHeartbeats 4000000 in
theorem step_x {Z : Nat → Prop} {c r n : Nat} {l0 l9 : Int} {X : Sx} {w : World} (hj : Jn Z c r l0 l9 n X w) (hZ : ∀ k, Z k → k < w.heap.size) (kd : Int) (hk : kd ≠ 0 ∧ kd ≠ 1 ∧ kd ≠ 2 ∧ kd ≠ 3 ∧ kd ≠ 4 ∧ kd ≠ 5 ∧ kd ≠ 6) (ao : Option Addr) (m cap : Nat) (rv nn : Int) (ky pf : ByteArray) :
    Calls Try.prog 8 #[.pointer (some ⟨c, 0, none⟩), .pointer (some ⟨r, 0, none⟩), .agg #[.int .i64 kd, .slice ao m cap, .int .i64 rv, .string ky, .string pf, .int .i64 nn]] w fun e w' => e = .returned (.bool true) ∧ Aft Z c r l0 l9 n X w w' := by
  obtain ⟨W0, hW0, hk0, hb0⟩ := new6 w (.int .i64 kd) (.slice ao m cap) (.int .i64 rv) (.string ky) (.string pf) (.int .i64 nn) 31
  obtain ⟨h0, h1, h2, h3, h4, h5, h6⟩ := hk
  have HE : Hid (Aft Z c r l0 l9 n X w W0) := ⟨X, (hj.go hb0).up, Grw.refl X, Fr.below hb0⟩
  have HW0 := Lib.hid hW0
  obtain ⟨c0, c1, c2, c3, c4, c5⟩ := cells6 hk0
  clear hW0 hk0 hb0 hj
  go_enter Try.func8, Try.ntmps8
  go_upto_region 1 with (fail)
  rw [← HW0.out]
  go_wp2
  go_ret
  exact ⟨rfl, HE.out⟩
end Go.Proofs.Ytjceofkcahfhmaa.Mv
