/- Add of both, at whatever is asked; both pins beside one another; the chapter's example; the law PinNil; no other condition. -/
import Derived.Test.YtjjnjankjbiigaaPnK
namespace Go.Proofs.Ytjjnjankjbiigaa.Pn
open Go.RowKit Go.Lib Go.Maps
set_option linter.unusedSimpArgs false
set_option linter.unusedVariables false

/-- what Add tells, and what stands behind it -/
def addE (m : Int) (l : List Pin) (r : Int) : Int := if r < 0 then 1 else if max m 1 ≤ (cnt l : Int) then 7 else 0
def addL (m : Int) (l : List Pin) (r u : Int) : List Pin := if addE m l r = 0 then l ++ [(r, u, true)] else l
def addV (m : Int) (l : List Pin) (r : Int) : Int := if addE m l r = 0 then (l.length : Int) + 1 else 0
def AdU (B c : Nat) (mb : Option Nat) (m : Int) (l : List Pin) (r u : Int) (w : World) (e : Ending) (w' : World) : Prop := e = .returned (.tuple #[.int .i64 (addV m l r), .int .i64 (addE m l r)]) ∧ ∃ mb', IsPn B c mb' m (addL m l r u) w' ∧ Ch c mb w w' ∧ NewB mb mb' w
theorem Add_u {B c : Nat} {mb : Option Nat} {m : Int} {l : List Pin} {w : World} (h : IsPn B c mb m l w) (hB : B ≤ w.heap.size) (r u : Int) (hl : l.length ≤ 1000000) :
    Calls Try.prog 16 #[.pointer (some ⟨c, 0, none⟩), .int .i64 r, .int .i64 u] w (AdU B c mb m l r u w) := by
  by_cases h1 : r < 0
  · have e : addE m l r = 1 := by unfold addE; rw [if_pos h1]
    refine (Add_arg c u w h1).mono fun e' w' hh => ?_
    obtain ⟨rfl, rfl⟩ := hh
    unfold AdU addV addL
    rw [e]
    exact ⟨rfl, mb, h, Ch.of (Below.refl _ _), .inl rfl⟩
  · by_cases h2 : max m 1 ≤ (cnt l : Int)
    · have e : addE m l r = 7 := by unfold addE; rw [if_neg h1, if_pos h2]
      refine (Add_full h u (by omega) h2).mono fun e' w' hh => ?_
      obtain ⟨rfl, hb⟩ := hh
      unfold AdU addV addL
      rw [e]
      exact ⟨rfl, mb, h.go hb, Ch.of hb, .inl rfl⟩
    · have e : addE m l r = 0 := by unfold addE; rw [if_neg h1, if_neg h2]
      refine (Add_ok h hB u (by omega) hl (by omega)).mono fun e' w' hh => ?_
      obtain ⟨rfl, mb', g1, g2, g3⟩ := hh
      unfold AdU addV addL
      rw [e]
      exact ⟨by simp, mb', g1, g2, g3⟩
def AdUr (B d : Nat) (gd : Option Nat) (m : Int) (l : List Pin) (r u : Int) (w : World) (e : Ending) (w' : World) : Prop := e = .returned (.tuple #[.int .i64 (addV m l r), .int .i64 (addE m l r)]) ∧ ∃ gd', IsRp B d gd' (max m 1) (addL m l r u) w' ∧ Ch d gd w w' ∧ NewB gd gd' w
theorem Add_ur {B d : Nat} {gd : Option Nat} {m : Int} {l : List Pin} {w : World} (h : IsRp B d gd (max m 1) l w) (hB : B ≤ w.heap.size) (r u : Int) (hl : l.length ≤ 1000000) :
    Calls Try.prog 20 #[.pointer (some ⟨d, 0, none⟩), .int .i64 r, .int .i64 u] w (AdUr B d gd m l r u w) := by
  by_cases h1 : r < 0
  · have e : addE m l r = 1 := by unfold addE; rw [if_pos h1]
    refine (Add_rarg d u w h1).mono fun e' w' hh => ?_
    obtain ⟨rfl, rfl⟩ := hh
    unfold AdUr addV addL
    rw [e]
    exact ⟨rfl, gd, h, Ch.of (Below.refl _ _), .inl rfl⟩
  · by_cases h2 : max m 1 ≤ (cnt l : Int)
    · have e : addE m l r = 7 := by unfold addE; rw [if_neg h1, if_pos h2]
      refine (Add_rfull h u (by omega) hl h2).mono fun e' w' hh => ?_
      obtain ⟨rfl, hb⟩ := hh
      unfold AdUr addV addL
      rw [e]
      exact ⟨rfl, gd, h.go hb, Ch.of hb, .inl rfl⟩
    · have e : addE m l r = 0 := by unfold addE; rw [if_neg h1, if_neg h2]
      refine (Add_rok h hB u (by omega) hl h2).mono fun e' w' hh => ?_
      obtain ⟨rfl, gd', g1, g2, g3⟩ := hh
      unfold AdUr addV addL
      rw [e]
      exact ⟨by simp, gd', g1, g2, g3⟩
/-- pins of the program's above the heap as it was -/
structure Ka (c : Nat) (mb : Option Nat) (m : Int) (l : List Pin) (w W : World) : Prop where
  pn : IsPn w.heap.size c mb m l W
  bel : Below w.heap.size w W
  ge : w.heap.size ≤ c
theorem Ka.go {c : Nat} {mb : Option Nat} {m : Int} {l : List Pin} {w W V : World} (h : Ka c mb m l w W) (hb : Below W.heap.size W V) : Ka c mb m l w V := ⟨h.pn.go hb, h.bel.trans (hb.mono h.bel.size), h.ge⟩
theorem Ka.step {c : Nat} {mb mb' : Option Nat} {m : Int} {l l' : List Pin} {w W V : World} (h : Ka c mb m l w W) (k : IsPn w.heap.size c mb' m l' V) (hc : Ch c mb W V) : Ka c mb' m l' w V :=
  ⟨k, h.bel.trans (hc.below h.bel.size h.ge (fun g hg => (h.pn.row g hg).1)), h.ge⟩
set_option maxRecDepth 100000 in
set_option maxHeartbeats 4000000 in
theorem awake_c (w : World) : Calls Try.prog 15 #[] w fun e w' => e = .returned (.bool true) ∧ Below w.heap.size w w' := by
  obtain ⟨c, hc⟩ : ∃ c, c = w.heap.size := ⟨_, rfl⟩
  have HC := Lib.hid hc
  have e1 : addL 4 [] 5 10 = [(5, 10, true)] := by decide
  have e2 : addL 4 [(5, 10, true)] 3 10 = [(5, 10, true), (3, 10, true)] := by decide
  have e3 : addV 4 [(5, 10, true)] 3 = 2 := by decide
  have e4 : addE 4 [(5, 10, true)] 3 = 0 := by decide
  have e5 : lst [(5, 10, true), (3, 10, true)] = (3, true) := by decide
  have PA : Hid (∀ mb W, Ka c mb 4 [] w W → Calls Try.prog 16 #[.pointer (some ⟨c, 0, none⟩), .int .i64 5, .int .i64 10] W fun e V => ∃ v q, e = .returned (.tuple #[.int .i64 v, .int .i64 q]) ∧ ∃ mb', Ka c mb' 4 [(5, 10, true)] w V) := fun mb W h => by
    refine (Add_u h.pn h.bel.size 5 10 (by simp)).mono fun e V hq => ⟨_, _, hq.1, ?_⟩
    obtain ⟨_, mb', g1, g2, _⟩ := hq
    rw [e1] at g1
    exact ⟨mb', h.step g1 g2⟩
  have PB : Hid (∀ mb W, Ka c mb 4 [(5, 10, true)] w W → Calls Try.prog 16 #[.pointer (some ⟨c, 0, none⟩), .int .i64 3, .int .i64 10] W fun e V => e = .returned (.tuple #[.int .i64 2, .int .i64 0]) ∧ ∃ mb', Ka c mb' 4 [(5, 10, true), (3, 10, true)] w V) := fun mb W h => by
    refine (Add_u h.pn h.bel.size 3 10 (by simp)).mono fun e V hq => ?_
    obtain ⟨h1, mb', g1, g2, _⟩ := hq
    rw [e2] at g1
    rw [e3, e4] at h1
    exact ⟨h1, mb', h.step g1 g2⟩
  have PL : Hid (∀ mb W, Ka c mb 4 [(5, 10, true), (3, 10, true)] w W → Calls Try.prog 13 #[.pointer (some ⟨c, 0, none⟩)] W fun e V => e = .returned (.tuple #[.int .i64 3, .bool true]) ∧ Ka c mb 4 [(5, 10, true), (3, 10, true)] w V) := fun mb W h => by
    have hi : I64 [(5, 10, true), (3, 10, true)] := fun i x hx => by
      obtain ⟨h1, h2⟩ := att_one.1 hx
      have := List.mem_of_getElem? h2
      simp at this
      omega
    refine (Least_c h.pn hi).mono fun e V hq => ?_
    obtain ⟨h1, hb⟩ := hq
    rw [e5] at h1
    exact ⟨h1, h.go hb⟩
  clear hc
  go_enter Try.func15, Try.ntmps15
  go_wp2_with fail
  refine (New_c 4 w).mono ?_
  rintro e w1 ⟨rfl, hn, hb⟩
  have K0 : Hid (Ka c none 4 [] w w1) := ⟨by rw [HC.out]; exact hn, hb, by rw [HC.out]; exact Nat.le_refl _⟩
  rw [← HC.out]
  clear hn hb
  go_wp2_with fail
  refine (PA.out _ _ K0.out).mono ?_
  rintro e w2 ⟨v, q, rfl, mb2, hk2⟩
  have K2 := Lib.hid hk2
  clear hk2
  go_wp2_with fail
  refine (PB.out _ _ K2.out).mono ?_
  rintro e w3 ⟨rfl, mb3, hk3⟩
  have K3 := Lib.hid hk3
  clear hk3
  go_wp2_with fail
  refine (PL.out _ _ K3.out).mono ?_
  rintro e w4 ⟨rfl, hk4⟩
  have K4 := Lib.hid hk4
  clear hk4
  go_wp2
  go_ret
  exact ⟨rfl, K4.out.bel⟩
set_option maxRecDepth 100000 in
set_option maxHeartbeats 4000000 in
theorem nil_law (a u : Int) (w : World) : Calls Try.prog 5 #[.int .i64 a, .int .i64 u] w fun e w' => e = .returned (.bool true) ∧ Below w.heap.size w w' := by
  go_enter Try.func5, Try.ntmps5
  go_wp2_with fail
  refine (Add_nil a u w).mono ?_
  rintro e w1 ⟨rfl, rfl⟩
  go_wp2_with fail
  refine (Rev_nil a w1).mono ?_
  rintro e w2 ⟨rfl, rfl⟩
  go_wp2_with fail
  refine (Least_nil w2).mono ?_
  rintro e w3 ⟨rfl, rfl⟩
  go_wp2_with fail
  refine (Keep_nil a u w3).mono ?_
  rintro e w4 ⟨rfl, rfl⟩
  go_wp2_with fail
  refine (Drop_nil a w4).mono ?_
  rintro e w5 ⟨rfl, rfl⟩
  go_wp2_with fail
  refine (Expire_nil u w5).mono ?_
  rintro e w6 ⟨rfl, hb6⟩
  have B6 := Lib.hid hb6
  clear hb6
  go_wp2_with fail
  refine (Len_nil w6).mono ?_
  rintro e w7 ⟨rfl, rfl⟩
  go_wp2_with fail
  refine (awake_c w7).mono ?_
  rintro e w8 ⟨rfl, hb8⟩
  have B8 : Hid (Below w5.heap.size w5 w8) := B6.out.trans (hb8.mono B6.out.size)
  clear hb8
  go_wp2
  go_ret
  exact ⟨rfl, B8.out⟩
end Go.Proofs.Ytjjnjankjbiigaa.Pn
