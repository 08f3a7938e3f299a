/- A log of the call's own above the heap as it was; the law's awake (chapter 20's example) answers yes; the law ClogNil; no other condition. -/
import Derived.Test.YtcmcbocegdejjaaClM
namespace Go.Proofs.Ytcmcbocegdejjaa.Cl
open Go.RowKit Go.Lib Go.Shelf Go.Sort
set_option linter.unusedSimpArgs false
set_option linter.unusedVariables false

structure Ka (c : Nat) (gb : Option Nat) (m : Int) (s : LS) (w W : World) : Prop where
  lg : IsS w.heap.size c gb m s W
  bel : Below w.heap.size w W
  ge : w.heap.size ≤ c
  rgt : Rgt s
theorem Ka.go {c : Nat} {gb : Option Nat} {m : Int} {s : LS} {w W V : World} (h : Ka c gb m s w W) (hb : Below W.heap.size W V) : Ka c gb m s w V := ⟨h.lg.go hb, h.bel.trans (hb.mono h.bel.size), h.ge, h.rgt⟩
theorem Ka.step {c : Nat} {gb : Option Nat} {m : Int} {s t : LS} {w W V : World} (h : Ka c gb m s w W) (hq : Sq w.heap.size c gb m t W V) (ht : Rgt t) : ∃ gb', Ka c gb' m t w V := by
  obtain ⟨gb', h1, h2, h3⟩ := hq
  exact ⟨gb', h1, h.bel.trans (h2.below h.bel.size h.ge (fun g hg => (h.lg.row g hg).1)), h.ge, ht⟩
/-- changes in a block that is made now -/
theorem apt_new {c g cap : Nat} {gb : Option Nat} {cs : List Chg} {W : World} (hg : g < W.heap.size) (hc : g ≠ c) (hb : some g ≠ gb) (hr : W.rangeAt g 0 (cC cs)) : Apt c gb (.slice (some ⟨g, 0, none⟩) cs.length cap) cs W := ⟨_, _, rfl, fun _ => ⟨g, 0, rfl, hg, hc, hb, hr⟩⟩
def chA : Chg := (⟨#[97]⟩, ⟨#[]⟩, false)
/-- the example's log behind so many additions -/
def exS : Nat → LS
  | 0 => LS.zero
  | j + 1 => (exS j).add (max 2 1) ((j : Int) + 1) [chA]
theorem exS_rgt : ∀ j, Rgt (exS j)
  | 0 => Rgt.zero
  | j + 1 => (exS_rgt j).add _ _ _
theorem exS_len : ∀ j, (exS j).all.length ≤ j
  | 0 => Nat.le_refl _
  | j + 1 => Nat.le_trans (LS.add_len _ _ _ _) (by have := exS_len j; simp; omega)
theorem ex_fl : (exS 3).fl = 1 := by decide
theorem ex_la : (exS 3).la = 3 := by decide
theorem ex_len : (abv (abv (exS 3).all (exS 3).fl) 1).length = 2 := by decide
set_option maxRecDepth 100000 in
set_option maxHeartbeats 4000000 in
theorem awake_c (w : World) : Calls Try.prog 17 #[] w fun e w' => e = .returned (.bool true) ∧ Below w.heap.size w w' := by
  obtain ⟨c, hc⟩ : ∃ c, c = w.heap.size := ⟨_, rfl⟩
  have HC := Lib.hid hc
  have PA : Hid (∀ (j : Nat) gb W, j < 3 → Ka c gb 2 (exS j) w W → ∀ WA, WA = W.alloc (.cells #[.string ⟨#[97]⟩, .string ⟨#[]⟩, .bool false] 55) → Calls Try.prog 20 #[.pointer (some ⟨c, 0, none⟩), .int .i64 ((j : Int) + 1), .slice (some ⟨W.heap.size, 0, none⟩) 1 1] WA fun e V => ∃ n, e = .returned (.int .i64 n) ∧ ∃ gb', Ka c gb' 2 (exS (j + 1)) w V) := fun j gb W hj h WA hWA => by
    have hb : Below W.heap.size W WA := by rw [hWA]; exact (Below.refl _ _).alloc (Nat.le_refl _) _
    have hk : WA.heap[W.heap.size]? = some (.cells #[.string ⟨#[97]⟩, .string ⟨#[]⟩, .bool false] 55 (0, 0)) := by rw [hWA]; exact heap_alloc_new W _
    have h2 := h.go hb
    have hl := exS_len j
    refine (Add_c h2.lg h2.bel.size (exS_rgt j) ((j : Int) + 1) (some ⟨W.heap.size, 0, none⟩) 1 [chA] (apt_new (Array.getElem?_eq_some_iff.1 hk).1 (by have := h.lg.lt; omega) (fun e => by have := (h.lg.row _ e.symm).2; omega) (fun i v hv => ?_)) (by omega) (by simp)).mono fun e V hq => ⟨_, hq.1, h2.step hq.2 (exS_rgt (j + 1))⟩
    have := World.news_of_block (cs := #[.string ⟨#[97]⟩, .string ⟨#[]⟩, .bool false]) hk i v hv
    rwa [addr0, ← Nat.zero_add i] at this
  have PG : Hid (∀ gb W, Ka c gb 2 (exS 3) w W → Calls Try.prog 14 #[.pointer (some ⟨c, 0, none⟩), .int .i64 0] W fun e V => e = .returned (.tuple #[.slice none 0 0, .int .i64 9]) ∧ V = W) := fun gb W h => Since_gone h.lg 0 (by rw [ex_fl]; decide)
  have PS : Hid (∀ gb W, Ka c gb 2 (exS 3) w W → Calls Try.prog 14 #[.pointer (some ⟨c, 0, none⟩), .int .i64 1] W fun e V => ∃ ao cap, e = .returned (.tuple #[.slice ao 2 cap, .int .i64 0]) ∧ Ka c gb 2 (exS 3) w V) := fun gb W h => by
    refine (Since_ok h.lg 1 (by rw [ex_fl]; decide) (by rw [ex_la]; decide) (srt_abv (exS_rgt 3).srt _) (by have := abv_len (exS 3).all (exS 3).fl; have := exS_len 3; omega)).mono ?_
    rintro e V ⟨v, rfl, ⟨ao, cap, rfl, _⟩, hb⟩
    refine ⟨ao, cap, ?_, h.go hb⟩
    rw [ex_len]
  have PF : Hid (∀ gb W, Ka c gb 2 (exS 3) w W → Calls Try.prog 10 #[.pointer (some ⟨c, 0, none⟩)] W fun e V => e = .returned (.int .i64 1) ∧ V = W) := fun gb W h => by
    have := Floor_c h.lg
    rwa [ex_fl] at this
  clear hc
  go_enter Try.func17, Try.ntmps17
  go_wp2_with fail
  refine (New_c 2 w).mono ?_
  rintro e w1 ⟨rfl, hn, hb⟩
  rw [← HC.out] at hn ⊢
  have K0 : Hid (Ka c none 2 (exS 0) w w1) := ⟨by rw [← HC.out]; exact hn, by rw [← HC.out] at hb ⊢; exact hb, by rw [HC.out]; exact Nat.le_refl _, Rgt.zero⟩
  clear hn hb
  go_wp2
  go_loopw [2] (fun v wr => ∃ (j : Nat) (gb : Option Nat), j ≤ 3 ∧ v = .int .i64 ((j : Int) + 1) ∧ Hid (Ka c gb 2 (exS j) w wr)) (fun v _ => 4 - (intOf v).toNat)
  case atStart => exact ⟨0, none, by omega, rfl, K0⟩
  case round =>
    obtain ⟨j, gb, hj, rfl, HK⟩ := hrel
    clear K0
    by_cases hlt : j < 3
    · have h1 : (j : Int) + 1 ≤ 3 := by omega
      obtain ⟨WA, hWA⟩ : ∃ WA, WA = wr.alloc (.cells #[.string ⟨#[97]⟩, .string ⟨#[]⟩, .bool false] 55) := ⟨_, rfl⟩
      have HP := Lib.hid (PA.out j gb wr hlt HK.out WA hWA)
      have HWA := Lib.hid hWA
      clear hWA
      go_wp2_with fail
      rw [← HWA.out]
      refine HP.out.mono ?_
      rintro e w2 ⟨n, rfl, gb', hk⟩
      have K2 := Lib.hid hk
      clear hk
      go_wp2
      go_roundw
      case rel => exact ⟨j + 1, gb', by omega, by go_num, K2⟩
      case measure => simp [intOf]; omega
    · have hj3 : j = 3 := by omega
      subst hj3
      go_wp2_with fail
      refine (PG.out _ _ HK.out).mono ?_
      rintro e w2 ⟨rfl, rfl⟩
      go_wp2_with fail
      refine (PS.out _ _ HK.out).mono ?_
      rintro e w3 ⟨ao, cap, rfl, hk⟩
      have K3 := Lib.hid hk
      clear hk
      go_wp2_with fail
      refine (PF.out _ _ K3.out).mono ?_
      rintro e w4 ⟨rfl, rfl⟩
      go_wp2
      go_ret
      exact ⟨rfl, K3.out.bel⟩
set_option maxRecDepth 100000 in
set_option maxHeartbeats 4000000 in
theorem nil_law (a0 : Int) (w : World) : Calls Try.prog 6 #[.int .i64 a0] w fun e w' => e = .returned (.bool true) ∧ Below w.heap.size w w' := by
  go_enter Try.func6, Try.ntmps6
  go_wp2_with fail
  refine (Since_nil a0 w).mono ?_
  rintro e w1 ⟨rfl, rfl⟩
  go_wp2_with fail
  refine (Next_nil a0 _ w1).mono ?_
  rintro e w2 ⟨rfl, rfl⟩
  go_wp2_with fail
  refine (Add_nil a0 _ w2).mono ?_
  rintro e w3 ⟨rfl, rfl⟩
  go_wp2_with fail
  refine (Floor_nil w3).mono ?_
  rintro e w4 ⟨rfl, rfl⟩
  go_wp2_with fail
  refine (Last_nil w4).mono ?_
  rintro e w5 ⟨rfl, rfl⟩
  go_wp2_with fail
  refine (Len_nil w5).mono ?_
  rintro e w6 ⟨rfl, rfl⟩
  go_wp2_with fail
  refine (awake_c w6).mono ?_
  rintro e w7 ⟨rfl, hb⟩
  have HB := Lib.hid hb
  clear hb
  go_wp2
  go_ret
  exact ⟨rfl, HB.out⟩
end Go.Proofs.Ytcmcbocegdejjaa.Cl
