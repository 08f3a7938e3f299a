/- The law's step: Commit; no other condition. -/
import Derived.Test.YtjceofkcahfhmaaMvEi
namespace Go.Proofs.Ytjceofkcahfhmaa.Mv
open Go.RowKit Go.Lib Go.Maps Go.Shelf Go.Sort
open Go.Proofs.Ytjceofkcahfhmaa.Cn
set_option linter.unusedSimpArgs false
set_option linter.unusedVariables false

set_option maxRecDepth 100000 in
set_option maxHeartbeats 4000000 in
theorem step_012 {Z : Nat → Prop} {c r n : Nat} {l0 l9 : Int} {X : Sx} {w : World} (hj : Jn Z c r l0 l9 n X w) (hn : n ≤ 39) (hZ : ∀ k, Z k → k < w.heap.size) (kd : Int) (hkd : kd = 0 ∨ kd = 1 ∨ kd = 2) (ao : Option Addr) (cap : Nat) (l : List ChT) (hl : RdX (.slice ao l.length cap) l w) (hlm : l.length ≤ maxLen) (hlk : ∀ x ∈ l, x.1.size ≤ maxLen) (rv nn : Int) (ky pf : ByteArray) :
    Calls Try.prog 8 #[.pointer (some ⟨c, 0, none⟩), .pointer (some ⟨r, 0, none⟩), .agg #[.int .i64 kd, .slice ao l.length cap, .int .i64 rv, .string ky, .string pf, .int .i64 nn]] w fun e w' => e = .returned (.bool true) ∧ Aft Z c r l0 l9 n X w w' := by
  obtain ⟨W0, hW0, hk0, hb0⟩ := new6 w (.int .i64 kd) (.slice ao l.length cap) (.int .i64 rv) (.string ky) (.string pf) (.int .i64 nn) 31
  obtain ⟨hp, N, mb, od, F, G, hN, hJw⟩ := hj
  have hJ := hJw.go hb0
  have hA := hp.refA (by omega)
  have hvb := hp.vsb (by omega)
  have hll := hp.lastLen
  have hk1 := hp.hk
  have hC3 := hp.b3
  have hrb := hp.b1
  have HOU := Lib.hid (ours_c ao cap l W0 (hl.go hb0) hlm)
  obtain ⟨l6, hl6⟩ : ∃ l6, l6 = l.take 6 := ⟨_, rfl⟩
  have h6 : l6.length ≤ 6 := by rw [hl6, List.length_take]; omega
  have hk6 : ∀ x ∈ l6, x.1.size ≤ maxLen := fun x hx => hlk x (List.mem_of_mem_take (by rw [← hl6]; exact hx))
  rw [← hl6] at HOU
  -- what comes behind ours
  have HMY : Hid (∀ V, Below W0.heap.size W0 V → ∀ a1 c1 a2 c2, RdC (.slice a1 l6.length c1) l6 V → RdC (.slice a2 l6.length c2) l6 V → l6.length ≤ c2 → (∀ g, a1 = some ⟨g, 0, none⟩ → W0.heap.size ≤ g) → (∀ g, a2 = some ⟨g, 0, none⟩ → W0.heap.size ≤ g) → ∃ y : Int, Calls Try.prog 19 #[.pointer (some ⟨r, 0, none⟩), .slice a2 l6.length c2] V fun e w1 => e = .returned (.int .i64 y) ∧ Calls Try.prog 20 #[.pointer (some ⟨c, 0, none⟩), .slice a1 l6.length c1] w1 fun e w2 => e = .returned (.int .i64 y) ∧ ∃ x z : Int, Calls Try.prog 21 #[.pointer (some ⟨c, 0, none⟩), .slice a1 l6.length c1] w2 fun e w3 => e = .returned (.tuple #[.int .i64 x, .int .i64 z]) ∧ Calls Try.prog 22 #[.pointer (some ⟨r, 0, none⟩), .slice a2 l6.length c2] w3 fun e w4 => e = .returned (.tuple #[.int .i64 x, .int .i64 z]) ∧ Aft Z c r l0 l9 n X W0 w4) := by
    intro V hV a1 c1 a2 c2 r1 r2 hc2 n1 n2
    have hME := may_eq (l0 := l0) (l9 := l9) (Cs := X.Cs) hp.hA hp.last hp.hk l6
    have hvs : X.vs = (sumC X.Cs : Nat) := by rw [hp.hv, hp.both]
    rw [← hvs] at hME
    have hJV := hJ.go hV
    refine ⟨mayE X.f l0 l9 X.rev X.ks X.vs l6, (MayR_c hJV.rf (by omega) (by omega) (by omega) (fun d hd => by have := hp.b4 d hd; omega) a2 c2 l6 r2 hc2 (by omega)).mono ?_⟩
    rintro e w1 ⟨rfl, hb1⟩
    refine ⟨by rw [hME], (May_c (hJV.go hb1).is (by omega) a1 c1 l6 (r1.go hb1) (by omega) hk6 (by omega) (by omega) (by omega)).mono ?_⟩
    rintro e w2 ⟨rfl, hb2⟩
    have hb12 : Below V.heap.size V w2 := btr hb1 hb2
    have hbW : Below W0.heap.size W0 w2 := btr hV hb12
    obtain ⟨x, z, h⟩ := cm_both hp hn hN (hJV.go hb12) (fun k hk => Nat.lt_of_lt_of_le (hZ k hk) (Nat.le_trans hb0.size hbW.size)) l6 h6 hk6 a1 a2 c1 c2 (r1.go hb12) (r2.go hb12) hc2 (fun g e ho => by have := n1 g e; have := owd_lt hJ.is hJ.ok ho; omega) (fun g e => ⟨fun ho => by have := n2 g e; have := owd_lt hJ.is hJ.ok ho; omega, fun ho => by have := n2 g e; have := (hJ.gs g ho).1; omega⟩)
    refine ⟨rfl, x, z, h.mono ?_⟩
    rintro e w3 ⟨rfl, h⟩
    refine ⟨rfl, h.mono ?_⟩
    rintro e w4 ⟨rfl, X', j1, j2, j3⟩
    exact ⟨rfl, X', j1, j2, (Fr.below hbW).trans j3 (fun j hj => .inl hj)⟩
  have HB0 : Hid (Fr (fun k => ¬ Z k) w W0) := Fr.below hb0
  have HW0 := Lib.hid hW0
  obtain ⟨c0, c1, c2, c3, c4, c5⟩ := cells6 hk0
  clear hW0 hk0 hb0 hp hJw hJ hl hlm hlk hl6 hk6 hvb hk1
  rcases hkd with rfl | rfl | rfl
  all_goals
    go_enter Try.func8, Try.ntmps8
    go_upto_region 1 with (fail)
    rw [← HW0.out]
    go_upto_region 6 with (go_at_call 18; (with_reducible refine HOU.out.mono ?_); rintro e w1 ⟨v1, v2, rfl, ho1, ho2, hb1⟩; obtain ⟨a1, p1, e1, _, hr1, hn1⟩ := ho1.rd; obtain ⟨a2, p2, e2, hp2, hr2, hn2⟩ := ho2.rd; subst e1 e2; obtain ⟨y, hy⟩ := HMY.out w1 hb1 a1 p1 a2 p2 hr1 hr2 hp2 hn1 hn2; have HY := Lib.hid hy; clear ho1 ho2 hb1 hr1 hn1 hp2 hr2 hn2 hy)
    clear c0 c1 c2 c3 c4 c5
    go_upto_region 7 with (go_at_call 19; (with_reducible refine HY.out.mono ?_); rintro e w2 ⟨rfl, hz⟩; have HZ := Lib.hid hz; clear hz)
    go_upto_region 9 with (go_at_call 20; (with_reducible refine HZ.out.mono ?_); rintro e w3 ⟨rfl, x, z, hu⟩; have HU := Lib.hid hu; clear hu)
    go_upto_region 10 with (go_at_call 21; (with_reducible refine HU.out.mono ?_); rintro e w4 ⟨rfl, hq⟩; have HQ := Lib.hid hq; clear hq)
    go_wp2_with (go_at_call 22; (with_reducible refine HQ.out.mono ?_); rintro e w5 ⟨rfl, hx⟩; have HX := Lib.hid hx; clear hx)
    go_ret
    exact ⟨rfl, HX.out.of HB0.out⟩
end Go.Proofs.Ytjceofkcahfhmaa.Mv
