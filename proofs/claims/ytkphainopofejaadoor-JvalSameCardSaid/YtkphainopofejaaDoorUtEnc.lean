/- Plain numbers: bytes are a rune's just if their first byte says so many, and the others go on; and strings of bytes are the same just if the bytes are. -/
import Derived.Test.YtkphainopofejaaDoorUtRefs
namespace Go.Proofs.YtkphainopofejaaDoor.Ut
open Go.RowKit
set_option linter.unusedSimpArgs false
set_option linter.unusedVariables false

def encOK (zs : List Int) (n : Nat) : Prop := isR (valT zs n) = true ∧ putI (valT zs n) = zs.take n
theorem okTo1 (zs : List Int) : okTo zs 1 := fun j hj h1 => by omega
theorem okTo2 (zs : List Int) : okTo zs 2 ↔ okAt zs 1 := ⟨fun h => h 1 (by omega) (by omega), fun h => okTo_succ (okTo1 zs) h⟩
theorem okTo3 (zs : List Int) : okTo zs 3 ↔ okAt zs 1 ∧ okAt zs 2 := ⟨fun h => ⟨h 1 (by omega) (by omega), h 2 (by omega) (by omega)⟩, fun h => okTo_succ ((okTo2 zs).2 h.1) h.2⟩
theorem okTo4 (zs : List Int) : okTo zs 4 ↔ okAt zs 1 ∧ okAt zs 2 ∧ okAt zs 3 := ⟨fun h => ⟨h 1 (by omega) (by omega), h 2 (by omega) (by omega), h 3 (by omega) (by omega)⟩, fun h => okTo_succ ((okTo3 zs).2 ⟨h.1, h.2.1⟩) h.2.2⟩

theorem isR_iff (v : Int) : isR v = true ↔ 0 ≤ v ∧ v ≤ 1114111 ∧ (v < 55296 ∨ 57343 < v) := by unfold isR; simp

theorem enc1 (z0 : Int) (h0 : 0 ≤ z0) (h1 : z0 ≤ 255) : (isR z0 = true ∧ putI z0 = [z0]) ↔ szI z0 = 1 := by
  rw [isR_iff]
  unfold putI szI
  constructor
  · rintro ⟨_, h⟩
    split at h
    · rw [if_pos (by omega)]
    · split at h
      · simp at h
      · split at h <;> simp at h
  · intro h
    split at h
    · exact ⟨by omega, by rw [if_pos (by omega)]⟩
    · (repeat' split at h) <;> omega
theorem enc2 (z0 z1 v : Int) (hv : v = 64 * (z0 - 192) + z1 - 128) (h0 : 0 ≤ z0) (h1 : z0 ≤ 255) (h2 : 0 ≤ z1) (h3 : z1 ≤ 255) : (isR v = true ∧ putI v = [z0, z1]) ↔ (szI z0 = 2 ∧ lo2 z0 ≤ z1 ∧ z1 ≤ hi2 z0) := by
  rw [isR_iff]
  unfold putI szI lo2 hi2
  constructor
  · rintro ⟨_, h⟩
    split at h
    · simp at h
    · split at h
      · simp only [List.cons.injEq, and_true] at h
        obtain ⟨ha, hb⟩ := h
        rw [if_neg (by omega), if_neg (by omega), if_pos (by omega), if_neg (by omega), if_neg (by omega), if_neg (by omega), if_neg (by omega)]
        omega
      · split at h <;> simp at h
  · rintro ⟨h, hl, hh⟩
    have hr : 194 ≤ z0 ∧ z0 ≤ 223 := by (repeat' split at h) <;> omega
    rw [if_neg (by omega), if_neg (by omega)] at hl
    rw [if_neg (by omega), if_neg (by omega)] at hh
    refine ⟨by omega, ?_⟩
    rw [if_neg (by omega), if_pos (by omega)]
    simp only [List.cons.injEq, and_true]
    omega
theorem enc3 (z0 z1 z2 v : Int) (hv : v = 64 * (64 * (z0 - 224) + z1 - 128) + z2 - 128) (h0 : 0 ≤ z0) (h1 : z0 ≤ 255) (h2 : 0 ≤ z1) (h3 : z1 ≤ 255) (h4 : 0 ≤ z2) (h5 : z2 ≤ 255) :
    (isR v = true ∧ putI v = [z0, z1, z2]) ↔ (szI z0 = 3 ∧ (lo2 z0 ≤ z1 ∧ z1 ≤ hi2 z0) ∧ 128 ≤ z2 ∧ z2 ≤ 191) := by
  rw [isR_iff]
  unfold putI szI lo2 hi2
  constructor
  · rintro ⟨hr, h⟩
    split at h
    · simp at h
    · split at h
      · simp at h
      · split at h
        · simp only [List.cons.injEq, and_true] at h
          obtain ⟨ha, hb, hc⟩ := h
          rw [if_neg (by omega), if_neg (by omega), if_neg (by omega), if_pos (by omega)]
          refine ⟨rfl, ⟨?_, ?_⟩, by omega, by omega⟩
          · (repeat' split) <;> omega
          · (repeat' split) <;> omega
        · simp at h
  · rintro ⟨h, ⟨hl, hh⟩, h6, h7⟩
    have hr : 224 ≤ z0 ∧ z0 ≤ 239 := by (repeat' split at h) <;> omega
    have hl' : 128 ≤ z1 ∧ (z0 = 224 → 160 ≤ z1) := by (repeat' split at hl) <;> omega
    have hh' : z1 ≤ 191 ∧ (z0 = 237 → z1 ≤ 159) := by (repeat' split at hh) <;> omega
    clear hl hh h
    refine ⟨by omega, ?_⟩
    rw [if_neg (by omega), if_neg (by omega), if_pos (by omega)]
    simp only [List.cons.injEq, and_true]
    omega
theorem enc4 (z0 z1 z2 z3 v : Int) (hv : v = 64 * (64 * (64 * (z0 - 240) + z1 - 128) + z2 - 128) + z3 - 128) (h0 : 0 ≤ z0) (h1 : z0 ≤ 255) (h2 : 0 ≤ z1) (h3 : z1 ≤ 255) (h4 : 0 ≤ z2) (h5 : z2 ≤ 255) (h8 : 0 ≤ z3) (h9 : z3 ≤ 255) :
    (isR v = true ∧ putI v = [z0, z1, z2, z3]) ↔ (szI z0 = 4 ∧ (lo2 z0 ≤ z1 ∧ z1 ≤ hi2 z0) ∧ (128 ≤ z2 ∧ z2 ≤ 191) ∧ 128 ≤ z3 ∧ z3 ≤ 191) := by
  rw [isR_iff]
  unfold putI szI lo2 hi2
  constructor
  · rintro ⟨hr, h⟩
    split at h
    · simp at h
    · split at h
      · simp at h
      · split at h
        · simp at h
        · simp only [List.cons.injEq, and_true] at h
          obtain ⟨ha, hb, hc, hd⟩ := h
          rw [if_neg (by omega), if_neg (by omega), if_neg (by omega), if_neg (by omega), if_pos (by omega)]
          refine ⟨rfl, ⟨?_, ?_⟩, by omega, by omega⟩
          · (repeat' split) <;> omega
          · (repeat' split) <;> omega
  · rintro ⟨h, ⟨hl, hh⟩, ⟨h6, h7⟩, h10, h11⟩
    have hr : 240 ≤ z0 ∧ z0 ≤ 244 := by (repeat' split at h) <;> omega
    have hl' : 128 ≤ z1 ∧ (z0 = 240 → 144 ≤ z1) := by (repeat' split at hl) <;> omega
    have hh' : z1 ≤ 191 ∧ (z0 = 244 → z1 ≤ 143) := by (repeat' split at hh) <;> omega
    clear hl hh h
    refine ⟨by omega, ?_⟩
    rw [if_neg (by omega), if_neg (by omega), if_neg (by omega)]
    simp only [List.cons.injEq, and_true]
    omega

theorem enc_iff (zs : List Int) (n : Nat) (hy : Byt zs) (h1 : 1 ≤ n) (h4 : n ≤ 4) (hn : n ≤ zs.length) : encOK zs n ↔ (szI (gd zs 0) = n ∧ okTo zs n) := by
  unfold encOK
  match n, h1, h4 with
  | 1, _, _ =>
    match zs, hn with
    | z0 :: r, _ =>
      have y0 := hy z0 (by simp)
      have := enc1 z0 y0.1 y0.2
      simp only [valT, gd, if_true, List.take_succ_cons, List.take_zero, List.getD_cons_zero]
      rw [this]
      exact ⟨fun h => ⟨h, okTo1 _⟩, fun h => h.1⟩
  | 2, _, _ =>
    match zs, hn with
    | z0 :: z1 :: r, _ =>
      have y0 := hy z0 (by simp)
      have y1 := hy z1 (by simp)
      have := enc2 z0 z1 _ rfl y0.1 y0.2 y1.1 y1.2
      rw [okTo2]
      simp only [valT, gd, okAt, if_true, if_neg (show ¬ (2 : Nat) = 1 by decide), List.take_succ_cons, List.take_zero, List.getD_cons_zero, List.getD_cons_succ]
      exact this
  | 3, _, _ =>
    match zs, hn with
    | z0 :: z1 :: z2 :: r, _ =>
      have y0 := hy z0 (by simp)
      have y1 := hy z1 (by simp)
      have y2 := hy z2 (by simp)
      have := enc3 z0 z1 z2 _ rfl y0.1 y0.2 y1.1 y1.2 y2.1 y2.2
      rw [okTo3]
      simp only [valT, gd, okAt, if_true, if_neg (show ¬ (2 : Nat) = 1 by decide), if_neg (show ¬ (3 : Nat) = 1 by decide), if_neg (show ¬ (3 : Nat) = 2 by decide), List.take_succ_cons, List.take_zero, List.getD_cons_zero, List.getD_cons_succ]
      exact this
  | 4, _, _ =>
    match zs, hn with
    | z0 :: z1 :: z2 :: z3 :: r, _ =>
      have y0 := hy z0 (by simp)
      have y1 := hy z1 (by simp)
      have y2 := hy z2 (by simp)
      have y3 := hy z3 (by simp)
      have := enc4 z0 z1 z2 z3 _ rfl y0.1 y0.2 y1.1 y1.2 y2.1 y2.2 y3.1 y3.2
      rw [okTo4]
      simp only [valT, gd, okAt, if_true, if_neg (show ¬ (2 : Nat) = 1 by decide), if_neg (show ¬ (3 : Nat) = 1 by decide), if_neg (show ¬ (4 : Nat) = 1 by decide), if_neg (show ¬ (4 : Nat) = 2 by decide), if_neg (show ¬ (4 : Nat) = 3 by decide), List.take_succ_cons, List.take_zero, List.getD_cons_zero, List.getD_cons_succ]
      exact this

theorem byte_inj {a b : Int} (ha : 0 ≤ a ∧ a ≤ 255) (hb : 0 ≤ b ∧ b ≤ 255) (h : UInt8.ofNat a.toNat = UInt8.ofNat b.toNat) : a = b := by
  have := congrArg UInt8.toNat h
  simp at this
  omega
theorem nums_inj : ∀ {a b : List Int}, Byt a → Byt b → (a.map fun n => UInt8.ofNat n.toNat) = (b.map fun n => UInt8.ofNat n.toNat) → a = b
  | [], [], _, _, _ => rfl
  | [], _ :: _, _, _, h => by simp at h
  | _ :: _, [], _, _, h => by simp at h
  | x :: a, y :: b, ha, hb, h => by
    simp only [List.map_cons, List.cons.injEq] at h
    rw [byte_inj (ha x (by simp)) (hb y (by simp)) h.1, nums_inj (fun z hz => ha z (by simp [hz])) (fun z hz => hb z (by simp [hz])) h.2]
theorem str_nums (a b : List Int) (ha : Byt a) (hb : Byt b) : ((strOfNums a).toList == (strOfNums b).toList) = decide (a = b) := by
  rw [Lib.toList_data, Lib.toList_data, strOfNums_data, strOfNums_data, Bool.eq_iff_iff]
  simp only [beq_iff_eq, decide_eq_true_eq]
  exact ⟨nums_inj ha hb, fun h => by rw [h]⟩
theorem putI_byt (v : Int) (h : isR v = true) : Byt (putI v) := by
  rw [isR_iff] at h
  intro z hz
  unfold putI at hz
  (repeat' split at hz) <;> simp at hz <;> omega
end Go.Proofs.YtkphainopofejaaDoor.Ut
