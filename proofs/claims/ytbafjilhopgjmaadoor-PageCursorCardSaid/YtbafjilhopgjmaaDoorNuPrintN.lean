/- Contract of the document's own Print, of every number. -/
import Derived.Test.YtbafjilhopgjmaaDoorNuPrints
namespace Go.Proofs.YtbafjilhopgjmaaDoor.Nu
open Go.RowKit
set_option linter.unusedSimpArgs false
set_option linter.unusedVariables false

theorem printR_m1 (u : Nat) (w : World) (h1 : 1 ≤ u) (h : u < 10) : Calls Tryd.prog 18 #[.int .i64 (-(u : Int))] w fun e w' => e = .returned (.string (mkS (45 :: Lib.decDigits u))) ∧ Below w.heap.size w w' := by
  have H1 := Lib.hid (fun W => printR_one u W h)
  have HE : Hid (⟨#[45]⟩ ++ mkS (Lib.decDigits u) = mkS (45 :: Lib.decDigits u)) := mkS_app [45] _
  have hz : (mkS (Lib.decDigits u)).size ≤ 1 := by rw [size_mkS, dec_small h]; simp
  have hneg : ¬ 0 ≤ -(u : Int) := by omega
  have hgt : -10 < -(u : Int) := by omega
  have h9 : (u : Int) < 10 := by omega
  clear h h1
  revert H1 HE hz
  generalize mkS (Lib.decDigits u) = x
  intro H1 HE hz
  go_enter Tryd.func18, Tryd.ntmps18
  go_wp2_with fail
  refine (H1.out _).mono ?_
  rintro e w1 ⟨rfl, hb1⟩
  have B1 := Lib.hid hb1
  clear hb1
  go_wp2
  go_ret
  exact ⟨ret_str HE.out, B1.out⟩

theorem tdiv_neg (u : Nat) : (-(u : Int)).tdiv 10 = -((u / 10 : Nat) : Int) := by rw [Int.neg_tdiv]; rfl
theorem tmod_neg (u : Nat) : (-(u : Int)).tmod 10 = -((u % 10 : Nat) : Int) := by rw [Int.neg_tmod]; rfl
set_option maxRecDepth 100000 in
set_option maxHeartbeats 1000000 in
theorem printR_neg : ∀ (f u : Nat) (w : World), u < f → 1 ≤ u → u ≤ 9223372036854775808 → Calls Tryd.prog 18 #[.int .i64 (-(u : Int))] w fun e w' => e = .returned (.string (mkS (45 :: Lib.decDigits u))) ∧ Below w.heap.size w w' := by
  intro f
  induction f with
  | zero => intro u w h; omega
  | succ f ih =>
    intro u w hf hu1 hu
    by_cases h : u < 10
    · exact printR_m1 u w hu1 h
    have H1 := Lib.hid (fun W => ih (u / 10) W (by omega) (by omega) (by omega))
    have H2 := Lib.hid (fun W => printR_one (u % 10) W (by omega))
    rw [dec_small (show u % 10 < 10 by omega)] at H2
    have HE : Hid (mkS (45 :: Lib.decDigits (u / 10)) ++ mkS [UInt8.ofNat (48 + u % 10)] = mkS (45 :: Lib.decDigits u)) := by
      show _ = mkS (45 :: Lib.decDigits u)
      rw [mkS_app, dec_big h]; rfl
    have hz1 : (mkS (45 :: Lib.decDigits (u / 10))).size ≤ 30 := by
      rw [size_mkS, List.length_cons]
      have := dec_len 19 (u / 10) (by have : (10 : Nat) ^ (19 + 1) = 100000000000000000000 := by decide
                                      omega)
      omega
    have hz2 : (mkS [UInt8.ofNat (48 + u % 10)]).size ≤ 1 := by rw [size_mkS]; simp
    have hneg : ¬ 0 ≤ -(u : Int) := by omega
    have hgt : ¬ -10 < -(u : Int) := by omega
    have hd := tdiv_neg u
    have hm := tmod_neg u
    have q1 : ((u / 10 : Nat) : Int) ≤ 1000000000000000000 := by omega
    have q2 : ((u % 10 : Nat) : Int) ≤ 9 := by omega
    have hlo : -9223372036854775808 ≤ -(u : Int) := by omega
    clear ih hf h hu hu1
    revert H1 H2 HE hz1 hz2
    generalize mkS (45 :: Lib.decDigits (u / 10)) = x
    generalize mkS [UInt8.ofNat (48 + u % 10)] = y
    intro H1 H2 HE hz1 hz2
    revert H1 H2 hd hm q1 q2
    generalize u / 10 = a
    generalize u % 10 = b
    intro hd hm q1 q2 H1 H2
    generalize hnn : -(u : Int) = n at hneg hgt hd hm hlo ⊢
    clear hnn
    go_enter Tryd.func18, Tryd.ntmps18
    go_wp2_with fail
    refine (H1.out _).mono ?_
    rintro e w1 ⟨rfl, hb1⟩
    have B1 := Lib.hid hb1
    clear hb1
    go_wp2_with fail
    refine (H2.out _).mono ?_
    rintro e w2 ⟨rfl, hb2⟩
    have B2 := Lib.hid hb2
    clear hb2
    go_wp2
    go_ret
    exact ⟨ret_str HE.out, B1.out.trans (B2.out.mono B1.out.size)⟩

theorem print_r (n : Int) (w : World) (h0 : -9223372036854775808 ≤ n) (h1 : n ≤ 9223372036854775807) : Calls Tryd.prog 18 #[.int .i64 n] w fun e w' => e = .returned (.string (mkS (Lib.itoa n))) ∧ Below w.heap.size w w' := by
  by_cases h : n < 0
  · have := printR_neg (n.natAbs + 1) n.natAbs w (by omega) (by omega) (by omega)
    have e : -(n.natAbs : Int) = n := by omega
    rw [e] at this
    unfold Lib.itoa
    rw [if_pos h]
    exact this
  · have := printR_pos (n.toNat + 1) n.toNat w (by omega) (by omega) (by omega)
    have e : (n.toNat : Int) = n := by omega
    rw [e] at this
    unfold Lib.itoa
    rw [if_neg h]
    exact this
end Go.Proofs.YtbafjilhopgjmaaDoor.Nu
