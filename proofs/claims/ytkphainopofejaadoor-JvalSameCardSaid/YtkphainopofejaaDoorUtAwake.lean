/- The contract of Next of package utf in one piece, and the chapter's own example: awake returns true; where the tables lie as the program's text lays them. -/
import Derived.Test.YtkphainopofejaaDoorUtNext
namespace Go.Proofs.YtkphainopofejaaDoor.Ut
open Go.RowKit
set_option linter.unusedSimpArgs false
set_option linter.unusedVariables false

/-- a slice that reads as these bytes -/
def Sl (w : World) (A : Option Addr) (zs : List Int) : Prop := zs ≠ [] → ∃ b off, A = some ⟨b, off, none⟩ ∧ b < w.heap.size ∧ Bts w b off zs
theorem Sl.go {w w' : World} {A : Option Addr} {zs : List Int} (h : Sl w A zs) (hb : Below w.heap.size w w') : Sl w' A zs := fun hz => by
  obtain ⟨b, off, e, hl, hB⟩ := h hz
  exact ⟨b, off, e, Nat.lt_of_lt_of_le hl hb.size, hB.below hb hl⟩
def nextE (zs : List Int) : Ending := if zs = [] then tup3 0 0 6 else if (nextR zs).2 = -1 then tup3 0 0 11 else if (nextR zs).2 = 0 then tup3 0 0 3 else tup3 (nextR zs).1 (nextR zs).2 0

theorem next_c (A : Option Addr) (n cap : Nat) (zs : List Int) (w : World) (hT : Tabs w) (hA : Sl w A zs) (hy : Byt zs) (hn : zs.length = n) (hm : n ≤ cap) (hcm : cap ≤ maxLen) :
    Calls Tryd.prog 79 #[.slice A n cap] w fun e w' => e = nextE zs ∧ Below w.heap.size w w' := by
  by_cases hz : zs = []
  · subst hz
    obtain rfl : n = 0 := by simpa using hn.symm
    exact next_nil A cap w
  · obtain ⟨b, off, rfl, hbw, hB⟩ := hA hz
    have hp : 0 < zs.length := List.length_pos_iff.2 hz
    have h0 := byt_at hy 0 hp
    have c0 := bts_at hB 0 hp
    simp only [Nat.add_zero] at c0
    have hE : nextE zs = if (nextR zs).2 = -1 then tup3 0 0 11 else if (nextR zs).2 = 0 then tup3 0 0 3 else tup3 (nextR zs).1 (nextR zs).2 0 := by unfold nextE; rw [if_neg hz]
    cases hr : rowOf (gd zs 0) with
    | none =>
      have hs := row_none h0.1 hr
      have hR : nextR zs = (0, 0) := by unfold nextR; rw [if_pos hs]
      refine (next_no b off n cap _ w hT c0 (by omega) (by omega) h0.1 h0.2 hr).mono fun e w' ⟨he, hb⟩ => ⟨?_, hb⟩
      rw [hE, hR, he]; rfl
    | some f =>
      obtain ⟨hs, hs1, hs4, hlh⟩ := row_some h0.1 hr
      obtain ⟨fa, fb, fs, fl, fh⟩ := f
      simp only at hs hlh
      subst hs
      have HF := Lib.hid (firstOf_yes _ _ w hT h0.1 h0.2 hr)
      have hR : nextR zs = if okTo zs (min zs.length (szI (gd zs 0))) then (if zs.length < szI (gd zs 0) then (0, -1) else (valT zs (szI (gd zs 0)), (szI (gd zs 0) : Int))) else (0, 0) := by
        unfold nextR; rw [if_neg (by omega)]
      have hfin : ∀ (e : Ending), ((e = tup3 0 0 3 ∧ ¬ okTo zs (szI (gd zs 0))) ∨ (e = tup3 (valT zs (szI (gd zs 0))) (szI (gd zs 0)) 0 ∧ okTo zs (szI (gd zs 0)))) → szI (gd zs 0) ≤ n → e = nextE zs := by
        intro e he hle
        rw [hE, hR, show min zs.length (szI (gd zs 0)) = szI (gd zs 0) by omega]
        rcases he with ⟨rfl, hno⟩ | ⟨rfl, hok⟩
        · rw [if_neg hno]; rfl
        · rw [if_pos hok, if_neg (show ¬ zs.length < szI (gd zs 0) by omega)]
          show tup3 (valT zs (szI (gd zs 0))) (szI (gd zs 0)) 0 = if ((szI (gd zs 0) : Nat) : Int) = -1 then tup3 0 0 11 else if ((szI (gd zs 0) : Nat) : Int) = 0 then tup3 0 0 3 else tup3 (valT zs (szI (gd zs 0))) (szI (gd zs 0)) 0
          rw [if_neg (show ¬ ((szI (gd zs 0) : Nat) : Int) = -1 by omega), if_neg (show ¬ ((szI (gd zs 0) : Nat) : Int) = 0 by omega)]
      rcases Nat.lt_trichotomy n (szI (gd zs 0)) with hlt | heq | hgt
      · refine (next_more b off n cap _ zs _ fa fb fl fh w hT hB hbw hy hn (by omega) hm hcm rfl h0.1 h0.2 c0 rfl hs1 hs4 hlh HF.out hlt).mono fun e w' ⟨he, hb⟩ => ⟨?_, hb⟩
        rw [hE, hR, show min zs.length (szI (gd zs 0)) = n by omega, if_pos (show zs.length < szI (gd zs 0) by omega)]
        rcases he with ⟨rfl, hno⟩ | ⟨rfl, hok⟩
        · rw [if_neg hno]; rfl
        · rw [if_pos hok]; rfl
      · subst heq
        exact (next_eq b off cap _ zs _ fa fb fl fh w hT hB hbw hy hn (by omega) hm hcm rfl h0.1 h0.2 c0 rfl hs1 hs4 hlh HF.out).mono fun e w' ⟨he, hb⟩ => ⟨hfin e he (Nat.le_refl _), hb⟩
      · exact (next_all b off n cap _ zs _ fa fb fl fh w hT hB hbw hy hn (by omega) hm hcm rfl h0.1 h0.2 c0 rfl hs1 hs4 hlh HF.out hgt).mono fun e w' ⟨he, hb⟩ => ⟨hfin e he (by omega), hb⟩

theorem nextE_a : nextE [226, 130] = tup3 0 0 11 := by unfold nextE; rw [show nextR [226, 130] = (0, -1) by decide +kernel]; rfl
theorem nextE_b : nextE [226, 65] = tup3 0 0 3 := by unfold nextE; rw [show nextR [226, 65] = (0, 0) by decide +kernel]; rfl
theorem nextE_c : nextE [195, 169] = tup3 233 2 0 := by unfold nextE; rw [show nextR [195, 169] = (233, 2) by decide +kernel]; rfl

/-- Next of two bytes that have just been laid -/
theorem next_two (x y : Int) (w : World) (hT : Tabs w) (hx : 0 ≤ x ∧ x ≤ 255) (hy : 0 ≤ y ∧ y ≤ 255) : Calls Tryd.prog 79 #[.slice (some ⟨w.heap.size, 0, none⟩) 2 2] (w.alloc (.cells #[.int .u8 x, .int .u8 y] 5)) fun e w' => e = nextE [x, y] ∧ Below w.heap.size w w' := by
  refine (next_c (some ⟨w.heap.size, 0, none⟩) 2 2 [x, y] _ (hT.alloc _) ?_ ?_ rfl (Nat.le_refl _) (by unfold maxLen; omega)).mono fun e w' ⟨he, hb⟩ => ⟨he, ((Below.refl _ _).alloc (Nat.le_refl _) _).trans (hb.mono (by simp))⟩
  · intro _
    refine ⟨_, 0, rfl, by simp, fun j hj => ?_⟩
    rw [World.cell?_alloc_at _ _ _ _ rfl]
    match j, hj with
    | 0, _ => rfl
    | 1, _ => rfl
  · intro z hz
    rcases List.mem_cons.1 hz with rfl | hz
    · exact hx
    · rw [List.mem_singleton.1 hz]; exact hy

end Go.Proofs.YtkphainopofejaaDoor.Ut
