/- The law's awake (chapter 18's example) answers yes; no other condition. -/
import Derived.Test.YtfilammedofdoaaCnN
namespace Go.Proofs.Ytfilammedofdoaa.Cn
open Go.RowKit Go.Lib Go.Shelf Go.Sort
set_option linter.unusedSimpArgs false
set_option linter.unusedVariables false

/-- a chain of the call's own, above the heap as it was -/
structure Kc (N c : Nat) (gb : Option Nat) (l : List Ver) (w W : World) : Prop where
  ch : IsCh w.heap.size c N gb l W
  bel : Below w.heap.size w W
  asc : Asc l
  ge : w.heap.size ≤ c
theorem Kc.go {N c : Nat} {gb : Option Nat} {l : List Ver} {w W V : World} (h : Kc N c gb l w W) (hb : Below W.heap.size W V) : Kc N c gb l w V := ⟨h.ch.go hb, h.bel.trans (hb.mono h.bel.size), h.asc, h.ge⟩
theorem Kc.step {N N' c : Nat} {gb : Option Nat} {l l' : List Ver} {r : Int} {w W V : World} {e : Ending} (h : Kc N c gb l w W) (hq : PtQ w.heap.size c N' gb l' r W e V) (ha : Asc l') : e = .returned (.int .i64 r) ∧ ∃ gb', Kc N' c gb' l' w V := by
  obtain ⟨he, gb', hc, hch, _⟩ := hq
  have hb : Below w.heap.size W V := hch.below h.bel.size h.ge (fun g hg => (h.ch.base g hg).1)
  exact ⟨he, gb', hc, h.bel.trans hb, ha, h.ge⟩
theorem Kc.add {N c : Nat} {gb : Option Nat} {l : List Ver} {w W : World} (h : Kc N c gb l w W) (v : Ver) (hN : N + 1 ≤ 1000000) (h1 : 1 ≤ v.1) (h2 : v.1 ≤ 9007199254740991) (hl : lastB l = false ∨ (lastB l = true ∧ (lastV l).1 < v.1)) (ha : Asc (l ++ [v])) :
    Calls Try.prog 17 #[.pointer (some ⟨c, 0, none⟩), aggV v] W fun e V => e = .returned (.int .i64 0) ∧ ∃ gb', Kc (N + 1) c gb' (l ++ [v]) w V :=
  (put_ok w.heap.size c N gb l v W h.ch hN h.bel.size h1 h2 (lastB l) rfl (fun hb => by
    rcases hl with e | ⟨_, e⟩
    · rw [e] at hb; cases hb
    · exact e)).mono fun e V hq => h.step hq ha
set_option maxRecDepth 100000 in
set_option maxHeartbeats 4000000 in
theorem awake_c (w : World) : Calls Try.prog 14 #[] w fun e w' => e = .returned (.bool true) ∧ Below w.heap.size w w' := by
  obtain ⟨c, hc⟩ : ∃ c, c = w.heap.size := ⟨_, rfl⟩
  obtain ⟨l1, hl1⟩ : ∃ l1 : List Ver, l1 = [(2, ⟨#[97]⟩, false)] := ⟨_, rfl⟩
  obtain ⟨l2, hl2⟩ : ∃ l2 : List Ver, l2 = [(2, ⟨#[97]⟩, false), (5, ⟨#[98]⟩, false)] := ⟨_, rfl⟩
  obtain ⟨l3, hl3⟩ : ∃ l3 : List Ver, l3 = [(2, ⟨#[97]⟩, false), (5, ⟨#[98]⟩, false), (9, ⟨#[]⟩, true)] := ⟨_, rfl⟩
  have HC := Lib.hid hc
  have P1 : Hid (∀ gb W, Kc 0 c gb [] w W → Calls Try.prog 17 #[.pointer (some ⟨c, 0, none⟩), .agg #[.int .i64 2, .string ⟨#[97]⟩, .bool false]] W fun e V => e = .returned (.int .i64 0) ∧ ∃ gb', Kc 1 c gb' l1 w V) := fun gb W h => by
    have := h.add (2, ⟨#[97]⟩, false) (by omega) (by decide) (by decide) (.inl rfl) (by simp [Asc])
    rw [hl1]; exact this
  have P2 : Hid (∀ gb W, Kc 1 c gb l1 w W → Calls Try.prog 17 #[.pointer (some ⟨c, 0, none⟩), .agg #[.int .i64 5, .string ⟨#[98]⟩, .bool false]] W fun e V => e = .returned (.int .i64 0) ∧ ∃ gb', Kc 2 c gb' l2 w V) := fun gb W h => by
    rw [hl1] at h
    have := h.add (5, ⟨#[98]⟩, false) (by omega) (by decide) (by decide) (.inr ⟨rfl, by decide⟩) (by simp [Asc])
    rw [hl2]; exact this
  have P3 : Hid (∀ gb W, Kc 2 c gb l2 w W → Calls Try.prog 17 #[.pointer (some ⟨c, 0, none⟩), .agg #[.int .i64 9, .string ⟨#[]⟩, .bool true]] W fun e V => e = .returned (.int .i64 0) ∧ ∃ gb', Kc 3 c gb' l3 w V) := fun gb W h => by
    rw [hl2] at h
    have := h.add (9, ⟨#[]⟩, true) (by omega) (by decide) (by decide) (.inr ⟨rfl, by decide⟩) (by simp [Asc])
    rw [hl3]; exact this
  have P4 : Hid (∀ gb W, Kc 3 c gb l3 w W → Calls Try.prog 9 #[.pointer (some ⟨c, 0, none⟩), .int .i64 6] W fun e V => e = .returned (.tuple #[.agg #[.int .i64 5, .string ⟨#[98]⟩, .bool false], .bool true]) ∧ Kc 3 c gb l3 w V) := fun gb W h => by
    refine (At_c w.heap.size c 3 gb l3 6 W h.ch (by omega) h.asc).mono ?_
    rintro e V ⟨rfl, hb⟩
    refine ⟨?_, h.go hb⟩
    rw [hl3]; rfl
  have P5 : Hid (∀ gb W, Kc 3 c gb l3 w W → Calls Try.prog 15 #[.pointer (some ⟨c, 0, none⟩), .int .i64 9] W fun e V => e = .returned (.int .i64 3) ∧ ∃ gb', Kc 3 c gb' [] w V) := fun gb W h => by
    refine (Compact_c w.heap.size c 3 gb l3 9 W h.ch (by omega) h.bel.size h.asc).mono ?_
    intro e V hq
    have hs : spr l3 9 = 3 := by rw [hl3]; decide
    have hm : cmp l3 9 = [] := by unfold cmp; rw [hs, hl3]; rfl
    rw [hs, hm] at hq
    exact h.step hq List.Pairwise.nil
  have P6 : Hid (∀ gb W, Kc 3 c gb [] w W → Calls Try.prog 8 #[.pointer (some ⟨c, 0, none⟩)] W fun e V => e = .returned (.int .i64 0) ∧ Below w.heap.size w V) := fun gb W h => by
    refine (Len_c w.heap.size c 3 gb [] W h.ch (by omega)).mono ?_
    rintro e V ⟨rfl, n, rfl⟩
    exact ⟨rfl, (h.go (bdrN W n)).bel⟩
  clear hl1 hl2 hl3 hc
  go_enter Try.func14, Try.ntmps14
  go_wp2_with fail
  refine (New_c w).mono ?_
  rintro e w1 ⟨rfl, hn, hb⟩
  rw [← HC.out] at hn ⊢
  have K0 : Hid (Kc 0 c none [] w w1) := ⟨by rw [← HC.out]; exact hn, by rw [← HC.out] at hb ⊢; exact hb, List.Pairwise.nil, by rw [HC.out]; exact Nat.le_refl _⟩
  clear hn hb
  go_wp2_with fail
  refine (P1.out _ _ K0.out).mono ?_
  rintro e w2 ⟨rfl, g1, hk⟩
  have K1 := Lib.hid hk
  clear hk
  go_wp2_with fail
  refine (P2.out _ _ K1.out).mono ?_
  rintro e w3 ⟨rfl, g2, hk⟩
  have K2 := Lib.hid hk
  clear hk
  go_wp2_with fail
  refine (P3.out _ _ K2.out).mono ?_
  rintro e w4 ⟨rfl, g3, hk⟩
  have K3 := Lib.hid hk
  clear hk
  go_wp2_with fail
  refine (P4.out _ _ K3.out).mono ?_
  rintro e w5 ⟨rfl, hk⟩
  obtain ⟨W6, hW6, hk6, hb6⟩ := new3 w5 (.int .i64 5) (.string ⟨#[98]⟩) (.bool false) 33
  have HW6 := Lib.hid hW6
  have K5 := Lib.hid (hk.go hb6)
  obtain ⟨d0, d1, d2⟩ := cells3 hk6
  clear hk hW6 hk6 hb6
  go_wp2_with fail
  rw [← HW6.out]
  refine (P5.out _ _ K5.out).mono ?_
  rintro e w7 ⟨rfl, g7, hk⟩
  have K7 := Lib.hid hk
  clear hk
  go_wp2_with fail
  refine (P6.out _ _ K7.out).mono ?_
  rintro e w8 ⟨rfl, hb⟩
  have HB8 := Lib.hid hb
  clear hb
  go_wp2
  go_ret
  exact ⟨rfl, HB8.out⟩
end Go.Proofs.Ytfilammedofdoaa.Cn
