/-
  EtagNumber (P9.2, P9.3): for every number and every mark (its text cut to eighty bytes), package etag's Of is the mark of v and the document's own digits, Number takes it back, and of any mark Number answers its number just where it is such a mark; chapter 9's example comes out. Condition: the listed variables of the library lie as the program's text lays them (tied card).
-/
import Derived.Test.YtojmjdgapfcjfaaDoorCards
import Derived.Test.YtojmjdgapfcjfaaDoorTie
import Derived.Test.YtojmjdgapfcjfaaDoorNuLaid
import Derived.ShutString
import Derived.ChangeOld
import Derived.SevenTiedAt
import Derived.Lib.SmallJoins
import Derived.Test.YtojmjdgapfcjfaaDoorEtNum
namespace Go.Proofs.YtojmjdgapfcjfaaDoor.etagNumber
open Go.ChangeShapes Go.WideShapes Go.ChangeAt Go.RowKit
open Go.ChangeMaps (open_string shut_string)
open Go.Proofs.YtojmjdgapfcjfaaDoor.Ch
open Go.Proofs.YtojmjdgapfcjfaaDoor.Et
set_option linter.unusedVariables false
set_option linter.unusedSimpArgs false

theorem own : ownKnob Tryd.prog.godebug = none := by kernel_rfl
theorem laidOut : laidOutB Tryd.prog = true := by kernel_rfl

def NuK (w : World) (a b : Value) (W : World) : Prop := Nu.Tabs W ∧ Below w.heap.size w W ∧ w.heap.size < W.heap.size ∧ W.cell? ⟨w.heap.size, 0, none⟩ = some a ∧ W.cell? ⟨w.heap.size, 1, none⟩ = some b
theorem NuK.go {w W W' : World} {a b : Value} (h : NuK w a b W) (hb : Below W.heap.size W W') : NuK w a b W' := ⟨h.1.go hb, h.2.1.trans (hb.mono h.2.1.size), Nat.lt_of_lt_of_le h.2.2.1 hb.size, (hb.cell (p := ⟨w.heap.size, 0, none⟩) h.2.2.1).trans h.2.2.2.1, (hb.cell (p := ⟨w.heap.size, 1, none⟩) h.2.2.1).trans h.2.2.2.2⟩
theorem NuK.drew {w W : World} {a b : Value} (h : NuK w a b W) : NuK w a b W.drew := h.go (bel_drew W)
set_option maxRecDepth 100000 in
set_option maxHeartbeats 8000000 in
theorem wWeak (n _k : Int) (x0 s sn : ByteArray) (w : World) (hs : Tryd.prog.stoodInHeld 28 = false)
    (hsh : Hid (∀ W, Calls Tryd.prog 8 #[.string x0] W fun e w' => e = .returned (.string s) ∧ W = w'))
    (HOF : Hid (∀ W, Nu.Tabs W → Calls Tryd.prog 18 #[.int .i64 n] W fun e w' => e = .returned (.agg #[.bool false, .string (⟨#[118]⟩ ++ sn)]) ∧ Below W.heap.size W w'))
    (HNU : Hid (∀ W, Nu.Tabs W → Calls Tryd.prog 19 #[.agg #[.bool false, .string (⟨#[118]⟩ ++ sn)]] W fun e w' => e = .returned (.tuple #[.int .i64 n, .bool true]) ∧ Below W.heap.size W w'))
    (HPR : Hid (∀ W, Calls Tryd.prog 20 #[.int .i64 n] W fun e w' => e = .returned (.string sn) ∧ Below W.heap.size W w'))
    (HN2 : Hid (∀ W, Nu.Tabs W → Calls Tryd.prog 19 #[.agg #[.bool true, .string s]] W fun e w' => e = .returned (.tuple #[.int .i64 0, .bool false]) ∧ Below W.heap.size W w'))
    (HT : Hid (Nu.Tabs w)) (hsn : sn.size ≤ 100)  :
    Calls Tryd.prog 6 #[.int .i64 n, .agg #[.bool true, .string x0]] w fun e w' => e = .returned (.bool true) ∧ Below w.heap.size w w' := by
  have hadd : ∀ W, (Op.stringOp .add ⟨#[118]⟩ sn).run Tryd.prog W = .ok (.string (⟨#[118]⟩ ++ sn)) W := fun W => run_string_add_sum W _ _ (by show 1 + sn.size ≤ _; omega)
  have hadf : (9223372036854775807 < 1 + sn.size) = False := by simp; omega
  have HK1 : Hid (NuK w (.bool true) (.string s) (w.alloc (.cells #[.bool true, .string s] 23))) := by
    have hb : Below w.heap.size w (w.alloc (.cells #[.bool true, .string s] 23)) := (Below.refl _ _).alloc (Nat.le_refl _) _
    exact ⟨HT.out.go hb, hb, by rw [World.size_alloc]; exact Nat.lt_succ_self _, (new2 w _ _ _).1, (new2 w _ _ _).2⟩
  go_enter Tryd.func6, Tryd.ntmps6
  go_wp2_with fail
  refine (hsh.out _).mono ?_
  rintro e w1 ⟨rfl, hw⟩
  rw [← hw]; clear hw
  go_wp2_with fail
  refine (HOF.out _ HK1.out.1).mono ?_
  rintro e w2 ⟨rfl, hb2⟩
  have HK2 := Lib.hid (HK1.out.go hb2)
  clear hb2 HK1
  have HK3 : Hid (NuK w (.bool true) (.string s) (w2.alloc (.cells #[.bool false, .string (⟨#[118]⟩ ++ sn)] 28))) := HK2.out.go ((Below.refl _ _).alloc (Nat.le_refl _) _)
  obtain ⟨n0, n1⟩ := new2 w2 (.bool false) (.string (⟨#[118]⟩ ++ sn)) 28
  go_wp2_with fail
  refine (HNU.out _ HK3.out.1).mono ?_
  rintro e w4 ⟨rfl, hb4⟩
  have HK4 := Lib.hid (HK3.out.go hb4)
  have hl2 : w2.heap.size < w4.heap.size := by have := hb4.size; rw [World.size_alloc] at this; omega
  have f0 := (hb4.cell (p := ⟨w2.heap.size, 0, none⟩) (by rw [World.size_alloc]; exact Nat.lt_succ_self _)).trans n0
  have f1 := (hb4.cell (p := ⟨w2.heap.size, 1, none⟩) (by rw [World.size_alloc]; exact Nat.lt_succ_self _)).trans n1
  clear hb4 HK3 HK2 n0 n1
  go_wp2_with fail
  go_region_held3 (fun V => V.cell? ⟨w2.heap.size, 0, none⟩ = some (.bool false) ∧ V.cell? ⟨w2.heap.size, 1, none⟩ = some (.string (⟨#[118]⟩ ++ sn)) ∧ NuK w (.bool true) (.string s) V)
    (first | exact ⟨g0, g1, HK5.out⟩ | exact ⟨f0, f1, HK4.out.drew⟩)
    (first | (go_at_call 20; refine (HPR.out _).mono ?_; rintro e w5 ⟨rfl, hb5⟩; have HK5 := Lib.hid (HK4.out.drew.go hb5); have g0 := (hb5.cell (p := ⟨w2.heap.size, 0, none⟩) hl2).trans f0; have g1 := (hb5.cell (p := ⟨w2.heap.size, 1, none⟩) hl2).trans f1; clear hb5))
  clear g0 g1 f0 f1 hl2
  have c0 := HK5.out.2.2.2.1
  have c1 := HK5.out.2.2.2.2
  go_wp2_with fail
  refine (HN2.out _ HK5.out.1).mono ?_
  rintro e w6 ⟨rfl, hb6⟩
  have HK6 := Lib.hid (HK5.out.go hb6)
  clear hb6 c0 c1
  have d0 := HK6.out.2.2.2.1
  have d1 := HK6.out.2.2.2.2
  go_wp2_with fail
  refine (awake_c _ HK6.out.1).mono ?_
  rintro e w9 ⟨rfl, hb9⟩
  have HB9 := Lib.hid hb9
  clear hb9
  go_wp2
  go_ret
  exact ⟨rfl, HK6.out.2.1.trans (HB9.out.mono HK6.out.2.1.size)⟩
set_option maxRecDepth 100000 in
set_option maxHeartbeats 8000000 in
theorem wShort (n _k : Int) (x0 s sn : ByteArray) (w : World) (hs : Tryd.prog.stoodInHeld 28 = false)
    (hsh : Hid (∀ W, Calls Tryd.prog 8 #[.string x0] W fun e w' => e = .returned (.string s) ∧ W = w'))
    (HOF : Hid (∀ W, Nu.Tabs W → Calls Tryd.prog 18 #[.int .i64 n] W fun e w' => e = .returned (.agg #[.bool false, .string (⟨#[118]⟩ ++ sn)]) ∧ Below W.heap.size W w'))
    (HNU : Hid (∀ W, Nu.Tabs W → Calls Tryd.prog 19 #[.agg #[.bool false, .string (⟨#[118]⟩ ++ sn)]] W fun e w' => e = .returned (.tuple #[.int .i64 n, .bool true]) ∧ Below W.heap.size W w'))
    (HPR : Hid (∀ W, Calls Tryd.prog 20 #[.int .i64 n] W fun e w' => e = .returned (.string sn) ∧ Below W.heap.size W w'))
    (HN2 : Hid (∀ W, Nu.Tabs W → Calls Tryd.prog 19 #[.agg #[.bool false, .string s]] W fun e w' => e = .returned (.tuple #[.int .i64 0, .bool false]) ∧ Below W.heap.size W w'))
    (HT : Hid (Nu.Tabs w)) (hsn : sn.size ≤ 100) (hz : (s.size : Int) < 2) (hz2 : s.size < 2) :
    Calls Tryd.prog 6 #[.int .i64 n, .agg #[.bool false, .string x0]] w fun e w' => e = .returned (.bool true) ∧ Below w.heap.size w w' := by
  have hadd : ∀ W, (Op.stringOp .add ⟨#[118]⟩ sn).run Tryd.prog W = .ok (.string (⟨#[118]⟩ ++ sn)) W := fun W => run_string_add_sum W _ _ (by show 1 + sn.size ≤ _; omega)
  have hadf : (9223372036854775807 < 1 + sn.size) = False := by simp; omega
  have HK1 : Hid (NuK w (.bool false) (.string s) (w.alloc (.cells #[.bool false, .string s] 23))) := by
    have hb : Below w.heap.size w (w.alloc (.cells #[.bool false, .string s] 23)) := (Below.refl _ _).alloc (Nat.le_refl _) _
    exact ⟨HT.out.go hb, hb, by rw [World.size_alloc]; exact Nat.lt_succ_self _, (new2 w _ _ _).1, (new2 w _ _ _).2⟩
  go_enter Tryd.func6, Tryd.ntmps6
  go_wp2_with fail
  refine (hsh.out _).mono ?_
  rintro e w1 ⟨rfl, hw⟩
  rw [← hw]; clear hw
  go_wp2_with fail
  refine (HOF.out _ HK1.out.1).mono ?_
  rintro e w2 ⟨rfl, hb2⟩
  have HK2 := Lib.hid (HK1.out.go hb2)
  clear hb2 HK1
  have HK3 : Hid (NuK w (.bool false) (.string s) (w2.alloc (.cells #[.bool false, .string (⟨#[118]⟩ ++ sn)] 28))) := HK2.out.go ((Below.refl _ _).alloc (Nat.le_refl _) _)
  obtain ⟨n0, n1⟩ := new2 w2 (.bool false) (.string (⟨#[118]⟩ ++ sn)) 28
  go_wp2_with fail
  refine (HNU.out _ HK3.out.1).mono ?_
  rintro e w4 ⟨rfl, hb4⟩
  have HK4 := Lib.hid (HK3.out.go hb4)
  have hl2 : w2.heap.size < w4.heap.size := by have := hb4.size; rw [World.size_alloc] at this; omega
  have f0 := (hb4.cell (p := ⟨w2.heap.size, 0, none⟩) (by rw [World.size_alloc]; exact Nat.lt_succ_self _)).trans n0
  have f1 := (hb4.cell (p := ⟨w2.heap.size, 1, none⟩) (by rw [World.size_alloc]; exact Nat.lt_succ_self _)).trans n1
  clear hb4 HK3 HK2 n0 n1
  go_wp2_with fail
  go_region_held3 (fun V => V.cell? ⟨w2.heap.size, 0, none⟩ = some (.bool false) ∧ V.cell? ⟨w2.heap.size, 1, none⟩ = some (.string (⟨#[118]⟩ ++ sn)) ∧ NuK w (.bool false) (.string s) V)
    (first | exact ⟨g0, g1, HK5.out⟩ | exact ⟨f0, f1, HK4.out.drew⟩)
    (first | (go_at_call 20; refine (HPR.out _).mono ?_; rintro e w5 ⟨rfl, hb5⟩; have HK5 := Lib.hid (HK4.out.drew.go hb5); have g0 := (hb5.cell (p := ⟨w2.heap.size, 0, none⟩) hl2).trans f0; have g1 := (hb5.cell (p := ⟨w2.heap.size, 1, none⟩) hl2).trans f1; clear hb5))
  clear g0 g1 f0 f1 hl2
  have c0 := HK5.out.2.2.2.1
  have c1 := HK5.out.2.2.2.2
  go_wp2_with fail
  refine (HN2.out _ HK5.out.1).mono ?_
  rintro e w6 ⟨rfl, hb6⟩
  have HK6 := Lib.hid (HK5.out.go hb6)
  clear hb6 c0 c1
  have d0 := HK6.out.2.2.2.1
  have d1 := HK6.out.2.2.2.2
  go_wp2_with fail
  refine (awake_c _ HK6.out.1).mono ?_
  rintro e w9 ⟨rfl, hb9⟩
  have HB9 := Lib.hid hb9
  clear hb9
  go_wp2
  go_ret
  exact ⟨rfl, HK6.out.2.1.trans (HB9.out.mono HK6.out.2.1.size)⟩
set_option maxRecDepth 100000 in
set_option maxHeartbeats 8000000 in
theorem wFirst (n _k : Int) (x0 s sn : ByteArray) (w : World) (hs : Tryd.prog.stoodInHeld 28 = false)
    (hsh : Hid (∀ W, Calls Tryd.prog 8 #[.string x0] W fun e w' => e = .returned (.string s) ∧ W = w'))
    (HOF : Hid (∀ W, Nu.Tabs W → Calls Tryd.prog 18 #[.int .i64 n] W fun e w' => e = .returned (.agg #[.bool false, .string (⟨#[118]⟩ ++ sn)]) ∧ Below W.heap.size W w'))
    (HNU : Hid (∀ W, Nu.Tabs W → Calls Tryd.prog 19 #[.agg #[.bool false, .string (⟨#[118]⟩ ++ sn)]] W fun e w' => e = .returned (.tuple #[.int .i64 n, .bool true]) ∧ Below W.heap.size W w'))
    (HPR : Hid (∀ W, Calls Tryd.prog 20 #[.int .i64 n] W fun e w' => e = .returned (.string sn) ∧ Below W.heap.size W w'))
    (HN2 : Hid (∀ W, Nu.Tabs W → Calls Tryd.prog 19 #[.agg #[.bool false, .string s]] W fun e w' => e = .returned (.tuple #[.int .i64 0, .bool false]) ∧ Below W.heap.size W w'))
    (HT : Hid (Nu.Tabs w)) (hsn : sn.size ≤ 100) (h0 : 0 < s.size) (hz : decide ((s.size : Int) < 2) = false) (hq : (((s[0].toNat : Nat) : Int) == 118) = false) (hqn : (((s[0].toNat : Nat) : Int) != 118) = true) :
    Calls Tryd.prog 6 #[.int .i64 n, .agg #[.bool false, .string x0]] w fun e w' => e = .returned (.bool true) ∧ Below w.heap.size w w' := by
  have hadd : ∀ W, (Op.stringOp .add ⟨#[118]⟩ sn).run Tryd.prog W = .ok (.string (⟨#[118]⟩ ++ sn)) W := fun W => run_string_add_sum W _ _ (by show 1 + sn.size ≤ _; omega)
  have hadf : (9223372036854775807 < 1 + sn.size) = False := by simp; omega
  have HK1 : Hid (NuK w (.bool false) (.string s) (w.alloc (.cells #[.bool false, .string s] 23))) := by
    have hb : Below w.heap.size w (w.alloc (.cells #[.bool false, .string s] 23)) := (Below.refl _ _).alloc (Nat.le_refl _) _
    exact ⟨HT.out.go hb, hb, by rw [World.size_alloc]; exact Nat.lt_succ_self _, (new2 w _ _ _).1, (new2 w _ _ _).2⟩
  go_enter Tryd.func6, Tryd.ntmps6
  go_wp2_with fail
  refine (hsh.out _).mono ?_
  rintro e w1 ⟨rfl, hw⟩
  rw [← hw]; clear hw
  go_wp2_with fail
  refine (HOF.out _ HK1.out.1).mono ?_
  rintro e w2 ⟨rfl, hb2⟩
  have HK2 := Lib.hid (HK1.out.go hb2)
  clear hb2 HK1
  have HK3 : Hid (NuK w (.bool false) (.string s) (w2.alloc (.cells #[.bool false, .string (⟨#[118]⟩ ++ sn)] 28))) := HK2.out.go ((Below.refl _ _).alloc (Nat.le_refl _) _)
  obtain ⟨n0, n1⟩ := new2 w2 (.bool false) (.string (⟨#[118]⟩ ++ sn)) 28
  go_wp2_with fail
  refine (HNU.out _ HK3.out.1).mono ?_
  rintro e w4 ⟨rfl, hb4⟩
  have HK4 := Lib.hid (HK3.out.go hb4)
  have hl2 : w2.heap.size < w4.heap.size := by have := hb4.size; rw [World.size_alloc] at this; omega
  have f0 := (hb4.cell (p := ⟨w2.heap.size, 0, none⟩) (by rw [World.size_alloc]; exact Nat.lt_succ_self _)).trans n0
  have f1 := (hb4.cell (p := ⟨w2.heap.size, 1, none⟩) (by rw [World.size_alloc]; exact Nat.lt_succ_self _)).trans n1
  clear hb4 HK3 HK2 n0 n1
  go_wp2_with fail
  go_region_held3 (fun V => V.cell? ⟨w2.heap.size, 0, none⟩ = some (.bool false) ∧ V.cell? ⟨w2.heap.size, 1, none⟩ = some (.string (⟨#[118]⟩ ++ sn)) ∧ NuK w (.bool false) (.string s) V)
    (first | exact ⟨g0, g1, HK5.out⟩ | exact ⟨f0, f1, HK4.out.drew⟩)
    (first | (go_at_call 20; refine (HPR.out _).mono ?_; rintro e w5 ⟨rfl, hb5⟩; have HK5 := Lib.hid (HK4.out.drew.go hb5); have g0 := (hb5.cell (p := ⟨w2.heap.size, 0, none⟩) hl2).trans f0; have g1 := (hb5.cell (p := ⟨w2.heap.size, 1, none⟩) hl2).trans f1; clear hb5))
  clear g0 g1 f0 f1 hl2
  have c0 := HK5.out.2.2.2.1
  have c1 := HK5.out.2.2.2.2
  go_wp2_with fail
  refine (HN2.out _ HK5.out.1).mono ?_
  rintro e w6 ⟨rfl, hb6⟩
  have HK6 := Lib.hid (HK5.out.go hb6)
  clear hb6 c0 c1
  have d0 := HK6.out.2.2.2.1
  have d1 := HK6.out.2.2.2.2
  go_wp2_with fail
  refine (awake_c _ HK6.out.1).mono ?_
  rintro e w9 ⟨rfl, hb9⟩
  have HB9 := Lib.hid hb9
  clear hb9
  go_wp2
  go_ret
  exact ⟨rfl, HK6.out.2.1.trans (HB9.out.mono HK6.out.2.1.size)⟩
set_option maxRecDepth 100000 in
set_option maxHeartbeats 8000000 in
theorem wNot (n _k : Int) (x0 s sn : ByteArray) (w : World) (hs : Tryd.prog.stoodInHeld 28 = false)
    (hsh : Hid (∀ W, Calls Tryd.prog 8 #[.string x0] W fun e w' => e = .returned (.string s) ∧ W = w'))
    (HOF : Hid (∀ W, Nu.Tabs W → Calls Tryd.prog 18 #[.int .i64 n] W fun e w' => e = .returned (.agg #[.bool false, .string (⟨#[118]⟩ ++ sn)]) ∧ Below W.heap.size W w'))
    (HNU : Hid (∀ W, Nu.Tabs W → Calls Tryd.prog 19 #[.agg #[.bool false, .string (⟨#[118]⟩ ++ sn)]] W fun e w' => e = .returned (.tuple #[.int .i64 n, .bool true]) ∧ Below W.heap.size W w'))
    (HPR : Hid (∀ W, Calls Tryd.prog 20 #[.int .i64 n] W fun e w' => e = .returned (.string sn) ∧ Below W.heap.size W w'))
    (HN2 : Hid (∀ W, Nu.Tabs W → Calls Tryd.prog 19 #[.agg #[.bool false, .string s]] W fun e w' => e = .returned (.tuple #[.int .i64 0, .bool false]) ∧ Below W.heap.size W w'))
    (HT : Hid (Nu.Tabs w)) (hsn : sn.size ≤ 100) (h0 : 0 < s.size) (h1 : 1 < s.size) (hz : decide ((s.size : Int) < 2) = false) (hq : (((s[0].toNat : Nat) : Int) == 118) = true) (hqn : (((s[0].toNat : Nat) : Int) != 118) = false) (HNN : Hid (∀ W, Calls Tryd.prog 21 #[.string (s.extract 1 s.size)] W fun e w' => e = .returned (.bool true) ∧ Below W.heap.size W w')) :
    Calls Tryd.prog 6 #[.int .i64 n, .agg #[.bool false, .string x0]] w fun e w' => e = .returned (.bool true) ∧ Below w.heap.size w w' := by
  have hadd : ∀ W, (Op.stringOp .add ⟨#[118]⟩ sn).run Tryd.prog W = .ok (.string (⟨#[118]⟩ ++ sn)) W := fun W => run_string_add_sum W _ _ (by show 1 + sn.size ≤ _; omega)
  have hadf : (9223372036854775807 < 1 + sn.size) = False := by simp; omega
  have HK1 : Hid (NuK w (.bool false) (.string s) (w.alloc (.cells #[.bool false, .string s] 23))) := by
    have hb : Below w.heap.size w (w.alloc (.cells #[.bool false, .string s] 23)) := (Below.refl _ _).alloc (Nat.le_refl _) _
    exact ⟨HT.out.go hb, hb, by rw [World.size_alloc]; exact Nat.lt_succ_self _, (new2 w _ _ _).1, (new2 w _ _ _).2⟩
  go_enter Tryd.func6, Tryd.ntmps6
  go_wp2_with fail
  refine (hsh.out _).mono ?_
  rintro e w1 ⟨rfl, hw⟩
  rw [← hw]; clear hw
  go_wp2_with fail
  refine (HOF.out _ HK1.out.1).mono ?_
  rintro e w2 ⟨rfl, hb2⟩
  have HK2 := Lib.hid (HK1.out.go hb2)
  clear hb2 HK1
  have HK3 : Hid (NuK w (.bool false) (.string s) (w2.alloc (.cells #[.bool false, .string (⟨#[118]⟩ ++ sn)] 28))) := HK2.out.go ((Below.refl _ _).alloc (Nat.le_refl _) _)
  obtain ⟨n0, n1⟩ := new2 w2 (.bool false) (.string (⟨#[118]⟩ ++ sn)) 28
  go_wp2_with fail
  refine (HNU.out _ HK3.out.1).mono ?_
  rintro e w4 ⟨rfl, hb4⟩
  have HK4 := Lib.hid (HK3.out.go hb4)
  have hl2 : w2.heap.size < w4.heap.size := by have := hb4.size; rw [World.size_alloc] at this; omega
  have f0 := (hb4.cell (p := ⟨w2.heap.size, 0, none⟩) (by rw [World.size_alloc]; exact Nat.lt_succ_self _)).trans n0
  have f1 := (hb4.cell (p := ⟨w2.heap.size, 1, none⟩) (by rw [World.size_alloc]; exact Nat.lt_succ_self _)).trans n1
  clear hb4 HK3 HK2 n0 n1
  go_wp2_with fail
  go_region_held3 (fun V => V.cell? ⟨w2.heap.size, 0, none⟩ = some (.bool false) ∧ V.cell? ⟨w2.heap.size, 1, none⟩ = some (.string (⟨#[118]⟩ ++ sn)) ∧ NuK w (.bool false) (.string s) V)
    (first | exact ⟨g0, g1, HK5.out⟩ | exact ⟨f0, f1, HK4.out.drew⟩)
    (first | (go_at_call 20; refine (HPR.out _).mono ?_; rintro e w5 ⟨rfl, hb5⟩; have HK5 := Lib.hid (HK4.out.drew.go hb5); have g0 := (hb5.cell (p := ⟨w2.heap.size, 0, none⟩) hl2).trans f0; have g1 := (hb5.cell (p := ⟨w2.heap.size, 1, none⟩) hl2).trans f1; clear hb5))
  clear g0 g1 f0 f1 hl2
  have c0 := HK5.out.2.2.2.1
  have c1 := HK5.out.2.2.2.2
  go_wp2_with fail
  refine (HN2.out _ HK5.out.1).mono ?_
  rintro e w6 ⟨rfl, hb6⟩
  have HK6 := Lib.hid (HK5.out.go hb6)
  clear hb6 c0 c1
  have d0 := HK6.out.2.2.2.1
  have d1 := HK6.out.2.2.2.2
  go_wp2_with fail
  refine (HNN.out _).mono ?_
  rintro e w7 ⟨rfl, hb7⟩
  have HK7 := Lib.hid (HK6.out.go hb7)
  clear hb7
  go_wp2_with fail
  refine (awake_c _ HK7.out.1).mono ?_
  rintro e w9 ⟨rfl, hb9⟩
  have HB9 := Lib.hid hb9
  clear hb9
  go_wp2
  go_ret
  exact ⟨rfl, HK7.out.2.1.trans (HB9.out.mono HK7.out.2.1.size)⟩
set_option maxRecDepth 100000 in
set_option maxHeartbeats 8000000 in
theorem wYes (n k : Int) (x0 sk sn : ByteArray) (w : World) (hs : Tryd.prog.stoodInHeld 28 = false)
    (hsh : Hid (∀ W, Calls Tryd.prog 8 #[.string x0] W fun e w' => e = .returned (.string (⟨#[118]⟩ ++ sk)) ∧ W = w'))
    (HOF : Hid (∀ W, Nu.Tabs W → Calls Tryd.prog 18 #[.int .i64 n] W fun e w' => e = .returned (.agg #[.bool false, .string (⟨#[118]⟩ ++ sn)]) ∧ Below W.heap.size W w'))
    (HNU : Hid (∀ W, Nu.Tabs W → Calls Tryd.prog 19 #[.agg #[.bool false, .string (⟨#[118]⟩ ++ sn)]] W fun e w' => e = .returned (.tuple #[.int .i64 n, .bool true]) ∧ Below W.heap.size W w'))
    (HPR : Hid (∀ W, Calls Tryd.prog 20 #[.int .i64 n] W fun e w' => e = .returned (.string sn) ∧ Below W.heap.size W w'))
    (HN2 : Hid (∀ W, Nu.Tabs W → Calls Tryd.prog 19 #[.agg #[.bool false, .string (⟨#[118]⟩ ++ sk)]] W fun e w' => e = .returned (.tuple #[.int .i64 k, .bool true]) ∧ Below W.heap.size W w'))
    (HT : Hid (Nu.Tabs w)) (hsn : sn.size ≤ 100) (hsk : sk.size ≤ 100) (HPK : Hid (∀ W, Calls Tryd.prog 20 #[.int .i64 k] W fun e w' => e = .returned (.string sk) ∧ Below W.heap.size W w')) :
    Calls Tryd.prog 6 #[.int .i64 n, .agg #[.bool false, .string x0]] w fun e w' => e = .returned (.bool true) ∧ Below w.heap.size w w' := by
  have hadd : ∀ W, (Op.stringOp .add ⟨#[118]⟩ sn).run Tryd.prog W = .ok (.string (⟨#[118]⟩ ++ sn)) W := fun W => run_string_add_sum W _ _ (by show 1 + sn.size ≤ _; omega)
  have hadf : (9223372036854775807 < 1 + sn.size) = False := by simp; omega
  have hadk : ∀ W, (Op.stringOp .add ⟨#[118]⟩ sk).run Tryd.prog W = .ok (.string (⟨#[118]⟩ ++ sk)) W := fun W => run_string_add_sum W _ _ (by show 1 + sk.size ≤ _; omega)
  have hadl : (9223372036854775807 < 1 + sk.size) = False := by simp; omega
  have HK1 : Hid (NuK w (.bool false) (.string (⟨#[118]⟩ ++ sk)) (w.alloc (.cells #[.bool false, .string (⟨#[118]⟩ ++ sk)] 23))) := by
    have hb : Below w.heap.size w (w.alloc (.cells #[.bool false, .string (⟨#[118]⟩ ++ sk)] 23)) := (Below.refl _ _).alloc (Nat.le_refl _) _
    exact ⟨HT.out.go hb, hb, by rw [World.size_alloc]; exact Nat.lt_succ_self _, (new2 w _ _ _).1, (new2 w _ _ _).2⟩
  go_enter Tryd.func6, Tryd.ntmps6
  go_wp2_with fail
  refine (hsh.out _).mono ?_
  rintro e w1 ⟨rfl, hw⟩
  rw [← hw]; clear hw
  go_wp2_with fail
  refine (HOF.out _ HK1.out.1).mono ?_
  rintro e w2 ⟨rfl, hb2⟩
  have HK2 := Lib.hid (HK1.out.go hb2)
  clear hb2 HK1
  have HK3 : Hid (NuK w (.bool false) (.string (⟨#[118]⟩ ++ sk)) (w2.alloc (.cells #[.bool false, .string (⟨#[118]⟩ ++ sn)] 28))) := HK2.out.go ((Below.refl _ _).alloc (Nat.le_refl _) _)
  obtain ⟨n0, n1⟩ := new2 w2 (.bool false) (.string (⟨#[118]⟩ ++ sn)) 28
  go_wp2_with fail
  refine (HNU.out _ HK3.out.1).mono ?_
  rintro e w4 ⟨rfl, hb4⟩
  have HK4 := Lib.hid (HK3.out.go hb4)
  have hl2 : w2.heap.size < w4.heap.size := by have := hb4.size; rw [World.size_alloc] at this; omega
  have f0 := (hb4.cell (p := ⟨w2.heap.size, 0, none⟩) (by rw [World.size_alloc]; exact Nat.lt_succ_self _)).trans n0
  have f1 := (hb4.cell (p := ⟨w2.heap.size, 1, none⟩) (by rw [World.size_alloc]; exact Nat.lt_succ_self _)).trans n1
  clear hb4 HK3 HK2 n0 n1
  go_wp2_with fail
  go_region_held3 (fun V => V.cell? ⟨w2.heap.size, 0, none⟩ = some (.bool false) ∧ V.cell? ⟨w2.heap.size, 1, none⟩ = some (.string (⟨#[118]⟩ ++ sn)) ∧ NuK w (.bool false) (.string (⟨#[118]⟩ ++ sk)) V)
    (first | exact ⟨g0, g1, HK5.out⟩ | exact ⟨f0, f1, HK4.out.drew⟩)
    (first | (go_at_call 20; refine (HPR.out _).mono ?_; rintro e w5 ⟨rfl, hb5⟩; have HK5 := Lib.hid (HK4.out.drew.go hb5); have g0 := (hb5.cell (p := ⟨w2.heap.size, 0, none⟩) hl2).trans f0; have g1 := (hb5.cell (p := ⟨w2.heap.size, 1, none⟩) hl2).trans f1; clear hb5))
  clear g0 g1 f0 f1 hl2
  have c0 := HK5.out.2.2.2.1
  have c1 := HK5.out.2.2.2.2
  go_wp2_with fail
  refine (HN2.out _ HK5.out.1).mono ?_
  rintro e w6 ⟨rfl, hb6⟩
  have HK6 := Lib.hid (HK5.out.go hb6)
  clear hb6 c0 c1
  have d0 := HK6.out.2.2.2.1
  have d1 := HK6.out.2.2.2.2
  go_wp2_with fail
  go_region_held3 (fun V => V.cell? ⟨w.heap.size, 0, none⟩ = some (.bool false) ∧ V.cell? ⟨w.heap.size, 1, none⟩ = some (.string (⟨#[118]⟩ ++ sk)) ∧ NuK w (.bool false) (.string (⟨#[118]⟩ ++ sk)) V)
    (first | exact ⟨HK8.out.2.2.2.1, HK8.out.2.2.2.2, HK8.out⟩ | exact ⟨HK7.out.2.2.2.1, HK7.out.2.2.2.2, HK7.out⟩ | exact ⟨d0, d1, HK6.out.drew⟩)
    (first | (go_at_call 20; refine (HPK.out _).mono ?_; rintro e w7 ⟨rfl, hb7⟩; have HK7 := Lib.hid (HK6.out.drew.go hb7); clear hb7)
           | (go_at_call 11; refine (awake_c _ HK7.out.1).mono ?_; rintro e w8 ⟨rfl, hb8⟩; have HK8 := Lib.hid (HK7.out.go hb8); clear hb8))
  go_wp2
  go_ret
  exact ⟨rfl, HK8.out.2.1⟩
theorem walk (n : Int) (wn : (Lit.int .i64 n).wf = true) (b : Bool) (x0 : ByteArray) (w0 : x0.size ≤ maxLen) (w : World) (hT : Nu.Tabs w) :
    Calls Tryd.prog 6 #[.int .i64 n, .agg #[.bool b, .string x0]] w fun e w' => e = .returned (.bool true) ∧ Below w.heap.size w w' := by
  obtain ⟨hn0, hn1⟩ := bounds_i64 wn
  have hsh := Lib.hid (fun W => short_c x0 W w0)
  have hsz := short_sz x0
  revert hsh hsz
  generalize mkS (Et.shortL x0.data.toList) = s
  intro hsh hsz
  have hsn : (mkS (Lib.itoa n)).size ≤ 100 := by rw [size_mkS]; have := Lib.itoa_length_le n hn0 hn1; omega
  have HOF := Lib.hid (fun W h => Of_c n W hn0 hn1 h)
  rw [← sum_v] at HOF
  have HNU := Lib.hid (fun W h => Number_c false (⟨#[118]⟩ ++ mkS (Lib.itoa n)) W (by rw [sum_v, size_mkS]; have := Lib.itoa_length_le n hn0 hn1; simp; omega) h)
  have e1 : nmL false (ByteArray.mk #[118] ++ mkS (Lib.itoa n)).data.toList = some n := by
    have hb := Nu.itoa_back n hn0 hn1
    rw [sum_v, data_mkS]
    unfold nmL
    rw [trimP_v, hb.1, hb.2, if_pos ⟨rfl, rfl, rfl⟩]
  rw [nmV_yes e1] at HNU
  have HPR := Lib.hid (fun W => Nu.print_r n W hn0 hn1)
  rw [show Nu.mkS (Lib.itoa n) = mkS (Lib.itoa n) from rfl] at HPR
  have HN2 := Lib.hid (fun W h => Number_c b s W (by omega) h)
  cases hq : nmL b s.data.toList with
  | some k =>
    rw [nmV_yes hq] at HN2
    unfold nmL at hq
    by_cases hc : Nu.pE (Lib.trimPrefix s.data.toList [118]) = 0 ∧ b = false ∧ s.data.toList = 118 :: Lib.itoa (Nu.pN (Lib.trimPrefix s.data.toList [118]))
    · rw [if_pos hc] at hq
      obtain ⟨hb0, hb1⟩ := Nu.pN_bd (Lib.trimPrefix s.data.toList [118])
      obtain ⟨_, rfl, hl⟩ := hc
      have hq2 := Option.some.inj hq
      rw [hq2] at hl hb0 hb1
      have es : s = ⟨#[118]⟩ ++ mkS (Lib.itoa k) := by rw [sum_v]; exact mkS_of hl
      clear hq hq2 hl
      subst es
      have HPK := Lib.hid (fun W => Nu.print_r k W hb0 hb1)
      rw [show Nu.mkS (Lib.itoa k) = mkS (Lib.itoa k) from rfl] at HPK
      exact wYes n k x0 _ _ w stood hsh HOF HNU HPR HN2 hT hsn (by rw [size_mkS]; have := Lib.itoa_length_le k hb0 hb1; omega) HPK
    · rw [if_neg hc] at hq; cases hq
  | none =>
    rw [nmV_no hq] at HN2
    cases b with
    | true => exact wWeak n 0 x0 s _ w stood hsh HOF HNU HPR HN2 hT hsn
    | false =>
      by_cases h2 : s.size < 2
      · exact wShort n 0 x0 s _ w stood hsh HOF HNU HPR HN2 hT hsn (by omega) h2
      · have h0 : 0 < s.size := by omega
        have h1 : 1 < s.size := by omega
        have hz : decide ((s.size : Int) < 2) = false := by simp; omega
        by_cases hv : s[0] = 118
        · have hb : (((s[0].toNat : Nat) : Int) == 118) = true := by rw [bq _ 118 118 rfl, decide_eq_true hv]
          have hl : s.data.toList = 118 :: (s.extract 1 s.size).data.toList := by
            rw [extN, data_mkS]
            have g := at_q s 0 h0
            have z := Lib.size_eq s
            rw [hv] at g
            revert g z
            generalize s.data.toList = l
            intro g z
            cases l with
            | nil => simp at g
            | cons c r => simp at g; rw [g]; rfl
          have hnn : nnB (s.extract 1 s.size).data.toList = true := by
            unfold nmL at hq
            rw [hl, trimP_v] at hq
            unfold nnB
            by_cases ha : Nu.pE (s.extract 1 s.size).data.toList = 0
            · by_cases hc : Lib.itoa (Nu.pN (s.extract 1 s.size).data.toList) = (s.extract 1 s.size).data.toList
              · rw [if_pos ⟨ha, rfl, by rw [hc]⟩] at hq; cases hq
              · rw [decide_eq_false hc, Bool.and_false]; rfl
            · rw [decide_eq_false ha, Bool.false_and]; rfl
          have HNN := Lib.hid (fun W => notNumber_c (s.extract 1 s.size) W (by rw [ByteArray.size_extract]; omega))
          rw [hnn] at HNN
          exact wNot n 0 x0 s _ w stood hsh HOF HNU HPR HN2 hT hsn h0 h1 hz hb (by simp only [bne, hb]; rfl) HNN
        · have hb : (((s[0].toNat : Nat) : Int) == 118) = false := by rw [bq _ 118 118 rfl, decide_eq_false hv]
          exact wFirst n 0 x0 s _ w stood hsh HOF HNU HPR HN2 hT hsn h0 hz hb (by simp only [bne, hb]; rfl)

set_option maxRecDepth 100000 in
theorem lifted (os : Os) (started : os.Started) (H : Type) (enc : TypeId × Value → H) :
    ReturnsInHanded {} Tryd.checked os 6 .any (fun w args => (Rows.etagNumberSpec.pre enc Tryd.prog Tryd.f6 [] false w args ∧ laidMetH Tryd.prog [("math/bits.deBruijn32tab", Rows.laid_math_bits_deBruijn32tab), ("math/bits.deBruijn64tab", Rows.laid_math_bits_deBruijn64tab), ("internal/strconv.uint64pow10", Rows.laid_internal_strconv_uint64pow10)] w) ∧ sizedMet enc Tryd.prog Tryd.f6 (OpenSpec.ofChange Rows.etagNumberSpec) false w args)
      (Rows.etagNumberSpec.post enc Tryd.prog Tryd.f6 false true false false) := by
  refine returnsInHanded_of_change_and (C := Tryd.checked) (X := fun w _ => laidMetH Tryd.prog [("math/bits.deBruijn32tab", Rows.laid_math_bits_deBruijn32tab), ("math/bits.deBruijn64tab", Rows.laid_math_bits_deBruijn64tab), ("internal/strconv.uint64pow10", Rows.laid_internal_strconv_uint64pow10)] w) (fun _ _ _ hh h => h.of_heap hh) own started (by kernel_rfl) Tryd.func6
    (ChangeSpec.witness_shaped (enc := enc) (C := Tryd.checked) (os := os) (X := fun w _ => laidMetH Tryd.prog [("math/bits.deBruijn32tab", Rows.laid_math_bits_deBruijn32tab), ("math/bits.deBruijn64tab", Rows.laid_math_bits_deBruijn64tab), ("internal/strconv.uint64pow10", Rows.laid_internal_strconv_uint64pow10)] w) false (World.doorLaid Tryd.prog 400 os) #[.int .i64 0, .agg #[.bool false, .string ByteArray.empty]] 8 rfl (World.shaped_of_RefB (by kernel_rfl) (by kernel_rfl)) (by kernel_rfl) (by kernel_rfl) (by kernel_rfl) (Nu.door_met os _)) ?_
  intro W base args ds gs before hval0 hW _ _ hL _
  have hval : ∀ (j : Nat) t v, Tryd.f6.params[j]? = some t → args[j]? = some v → Value.okWide Tryd.prog W .any base t v := hval0
  have hW' := hW
  obtain ⟨p, q, hA0, hV, rfl, hfz, hnd⟩ := hW
  have hA : DataW.TrodAll enc Tryd.prog W 0 (fun _ => true) true Tryd.f6.params.toList args.toList ds p := hA0
  rw [Tryd.params6] at hA hval
  obtain ⟨v0, vs0, d0, ds0, p0, q0, hargs, rfl, rfl, h0, r0⟩ := trodAll_cons hA
  obtain ⟨v1, vs1, d1, ds1, p1, q1, rfl, rfl, rfl, h1, r1⟩ := trodAll_cons r0
  obtain ⟨rfl, rfl, rfl⟩ := trodAll_nil r1
  obtain rfl : args = #[v0, v1] := by cases args; simp_all
  obtain ⟨rfl, rfl⟩ := trodVars_none hV
  obtain ⟨a0, rfl, rfl, rfl, w0⟩ := open_int Tryd.underlying2 (hval 0 2 v0 rfl rfl) h0
  have k1 := h1
  have lt1 : ∀ x ∈ p1, x.block < W.heap.size := by obtain ⟨m, hm⟩ := k1; exact DataW.trod_lt m _ _ _ hm
  obtain ⟨u1a, u1b, y1a, y1b, n1, rfl, _, _, hf1a, hf1b⟩ := Joins.open_agg2 Tryd.underlying23 (by kernel_rfl) (by kernel_rfl) (hval 1 23 v1 rfl rfl) h1
  obtain ⟨b1, e1a, _⟩ := DataW.trod_bool Tryd.underlying4 hf1a
  obtain ⟨x1, e1b, _, w1⟩ := DataW.trod_string Tryd.underlying9 hf1b
  obtain rfl : u1a = .bool b1 := by simpa using e1a
  obtain rfl : u1b = .string x1 := by simpa using e1b
  clear hA0 hval0
  have hT := Nu.of_laid hL
  refine (walk a0 w0 b1 x1 w1 W hT).mono fun e W' ⟨he, bel⟩ => ?_
  subst he
  exact ⟨_, rfl, _, _, _, [], _, [], hW', trodAll_mk1 (shut_bool Tryd.underlying4 _), (trodAll_cons_mk (shut_int Tryd.underlying2 w0) (trodAll_cons_mk (Below.trod laidOut (by kernel_rfl) (of_decide_eq_true (by kernel_rfl)) k1 bel lt1) trodAll_mk0)), rfl, bel.frame _, fun h => by cases h⟩

theorem over : Rows.EtagNumberSaid :=
  OpenClaim.holds_of_wide 6 Tryd.f6 rfl rfl rfl rfl rfl rfl rfl ⟨rfl, rfl, rfl, rfl, rfl⟩ rfl rfl rfl rfl rfl (by kernel_rfl) Tryd.func6 (by kernel_rfl)
    (of_decide_eq_true (by kernel_rfl)) (by unfold Func.isWrapper; first | (rw [if_pos (by decide +kernel)]; kernel_rfl) | (rw [if_neg (by decide +kernel)]; exact ⟨rfl, rfl⟩))
    (fun os started H enc _ => lifted os started H enc)
end Go.Proofs.YtojmjdgapfcjfaaDoor.etagNumber
namespace Go.Proofs.YtojmjdgapfcjfaaDoor
theorem etagNumber_card : Rows.EtagNumberCardSaid :=
  Claim7.holds_tied_plain_at .later [] [.data, .data, .data] true (true, "914a9bb9b9637a45452587cbd278f72a662e2d63687d4ca143f048852a48901a") false
    etagNumber.over (fun _ h => by cases h) (by kernel_rfl) (fun _ h => by cases h) etagNumber_row_tie rfl ⟨rfl, rfl⟩ (by kernel_rfl) rfl
    (fun f fn hf hfn => by
      obtain rfl : f = 6 := Option.some.inj ((show Tryd.prog.funcNamed Tryd.f6.name = some 6 by kernel_rfl).symm.trans hf) |>.symm
      obtain rfl : fn = Tryd.f6 := (Option.some.inj (Tryd.func6.symm.trans hfn)).symm
      exact ⟨by kernel_rfl, fun j t ht => by
        rw [Tryd.params6] at ht
        have hm : t ∈ [2, 23] := by simpa using Array.mem_of_getElem? ht
        have hall : ([2, 23].all fun u => !Tryd.prog.wantsStandIn u) = true := by kernel_rfl
        exact (show Tryd.prog.wantsStandIn t = false by simpa using List.all_eq_true.1 hall t hm)⟩)
    (by kernel_rfl)
#print axioms etagNumber_card
end Go.Proofs.YtojmjdgapfcjfaaDoor
