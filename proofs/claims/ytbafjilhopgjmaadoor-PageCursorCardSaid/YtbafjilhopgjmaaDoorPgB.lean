/- A cursor as text, plainly: what the code reads and what the document reads of a text is the same, and is what was written; no condition. -/
import Derived.Test.YtbafjilhopgjmaaDoorPgA
namespace Go.Proofs.YtbafjilhopgjmaaDoor.Pg
open Go.RowKit Ch
set_option linter.unusedSimpArgs false
set_option linter.unusedVariables false

def txC (a b : Int) : List UInt8 := 112 :: (Lib.itoa a ++ 46 :: Lib.itoa b)
def prC (a b : Int) : List UInt8 := if a < 1 ∨ b < 0 then [] else txC a b
theorem itoa_pos {n : Int} (h : 0 ≤ n) : Lib.itoa n = Lib.decDigits n.toNat := by unfold Lib.itoa; rw [if_neg (by omega)]
theorem itoa_dig {n : Int} (h : 0 ≤ n) : Nu.val 10 (Lib.itoa n) = n ∧ (Lib.itoa n).all (Nu.okD 10) = true ∧ Lib.itoa n ≠ [] := by
  rw [itoa_pos h]
  obtain ⟨v1, v2, v3, _⟩ := Nu.dec_val (n.toNat + 1) n.toNat (by omega)
  exact ⟨by rw [v1]; omega, v2, v3⟩
theorem itoa_46 {n : Int} (h : 0 ≤ n) : ¬ (46 : UInt8) ∈ Lib.itoa n := fun hm => by
  have := (List.all_eq_true.1 (itoa_dig h).2.1) _ hm
  revert this; decide
/-- the cursor whose text a row of bytes is, as the code finds it -/
def rdC (l : List UInt8) : Option (Int × Int) :=
  if Lib.hasPrefix l [112] = true ∧ Nu.pN (cutP 46 (Lib.trimPrefix l [112])).1 ≤ 2147483647 ∧ Nu.pN (cutP 46 (Lib.trimPrefix l [112])).2 ≤ 2147483647 ∧ prC (Nu.pN (cutP 46 (Lib.trimPrefix l [112])).1) (Nu.pN (cutP 46 (Lib.trimPrefix l [112])).2) = l then some (Nu.pN (cutP 46 (Lib.trimPrefix l [112])).1, Nu.pN (cutP 46 (Lib.trimPrefix l [112])).2) else none
theorem pre_cons (l : List UInt8) : Lib.hasPrefix (112 :: l) [112] = true ∧ Lib.trimPrefix (112 :: l) [112] = l := by
  have h : Lib.hasPrefix (112 :: l) [112] = true := by unfold Lib.hasPrefix; simp [List.isPrefixOf]
  refine ⟨h, ?_⟩
  unfold Lib.trimPrefix
  have h2 : Lib.hasPrefix (112 :: l) [112] = true := h
  rw [h2]; rfl
theorem rdC_iff (l : List UInt8) (a b : Int) : rdC l = some (a, b) ↔ 1 ≤ a ∧ a ≤ 2147483647 ∧ 0 ≤ b ∧ b ≤ 2147483647 ∧ l = txC a b := by
  unfold rdC
  constructor
  · intro h
    split at h
    · rename_i hc
      injection h with h
      injection h with h1 h2
      obtain ⟨hp, ha, hb, hl⟩ := hc
      rw [h1] at ha hl
      rw [h2] at hb hl
      unfold prC at hl
      split at hl
      · rw [← hl] at hp; cases hp
      · exact ⟨by omega, ha, by omega, hb, hl.symm⟩
    · cases h
  · rintro ⟨h1, h2, h3, h4, rfl⟩
    have e := pre_cons (Lib.itoa a ++ 46 :: Lib.itoa b)
    have ec := cutP_at (c := 46) (p := Lib.itoa a) (q := Lib.itoa b) (itoa_46 (by omega))
    have hh : Lib.trimPrefix (txC a b) [112] = Lib.itoa a ++ 46 :: Lib.itoa b := e.2
    rw [hh, ec]
    simp only
    rw [(Nu.itoa_back a (by omega) (by omega)).1, (Nu.itoa_back b (by omega) (by omega)).1, if_pos ⟨e.1, h2, h4, by unfold prC; rw [if_neg (by omega)]⟩]
/-- and as the document finds it -/
def rdR (l : List UInt8) : Option (Int × Int) := match cutL 46 l with
  | [x, y] => (match x with
    | [] => none
    | c :: x => if c = 112 ∧ Nu.rdE 10 2147483647 x = 0 ∧ Nu.rdE 10 2147483647 y = 0 ∧ prC (Nu.rdN 10 2147483647 x) (Nu.rdN 10 2147483647 y) = l then some (Nu.rdN 10 2147483647 x, Nu.rdN 10 2147483647 y) else none)
  | _ => none
theorem rdR_iff (l : List UInt8) (a b : Int) : rdR l = some (a, b) ↔ 1 ≤ a ∧ a ≤ 2147483647 ∧ 0 ≤ b ∧ b ≤ 2147483647 ∧ l = txC a b := by
  constructor
  · intro h
    unfold rdR at h
    split at h
    · rename_i x y hc
      split at h
      · cases h
      · rename_i c x
        split at h
        · rename_i hq
          obtain ⟨rfl, e1, e2, hl⟩ := hq
          injection h with h
          injection h with h1 h2
          have b1 := Nu.rdN_bd 10 2147483647 (.inl rfl) (by omega) x
          have b2 := Nu.rdN_bd 10 2147483647 (.inl rfl) (by omega) y
          rw [h1] at b1 hl
          rw [h2] at b2 hl
          unfold prC at hl
          split at hl
          · rw [← hl] at hc
            rw [cutL_none 46 [] (by simp)] at hc
            simp at hc
          · exact ⟨by omega, b1.2, by omega, b2.2, hl.symm⟩
        · cases h
    · cases h
  · rintro ⟨h1, h2, h3, h4, rfl⟩
    have hn : ¬ (46 : UInt8) ∈ (112 :: Lib.itoa a) := by
      intro hm
      rcases List.mem_cons.1 hm with h | h
      · revert h; decide
      · exact itoa_46 (by omega) h
    have ec : cutL 46 (txC a b) = [112 :: Lib.itoa a, Lib.itoa b] := by
      have := cutL_at 46 (112 :: Lib.itoa a) (Lib.itoa b) hn
      rw [cutL_none 46 _ (itoa_46 h3)] at this
      exact this
    obtain ⟨va, da, na⟩ := itoa_dig (n := a) (by omega)
    obtain ⟨vb, db, nb⟩ := itoa_dig (n := b) (by omega)
    have ra := Nu.rd_yes (M := 2147483647) ⟨na, da⟩ (by omega)
    have rb := Nu.rd_yes (M := 2147483647) ⟨nb, db⟩ (by omega)
    unfold rdR
    rw [ec]
    simp only
    rw [ra.1, ra.2, rb.1, rb.2, va, vb, if_pos (by simp only [true_and]; unfold prC; rw [if_neg (by omega)])]
theorem rd_eq (l : List UInt8) : rdR l = rdC l := by
  cases h : rdC l with
  | some p => obtain ⟨a, b⟩ := p; exact (rdR_iff l a b).2 ((rdC_iff l a b).1 h)
  | none =>
    cases h2 : rdR l with
    | none => rfl
    | some p => obtain ⟨a, b⟩ := p; rw [(rdC_iff l a b).2 ((rdR_iff l a b).1 h2)] at h; cases h
theorem itoa_le (n : Int) (h0 : -9223372036854775808 ≤ n) (h1 : n ≤ 9223372036854775807) : (Lib.itoa n).length ≤ 21 := by
  have e : (10 : Nat) ^ (19 + 1) = 100000000000000000000 := by decide
  unfold Lib.itoa
  split
  · have := Nu.dec_len 19 n.natAbs (by omega); simp; omega
  · have := Nu.dec_len 19 n.toNat (by omega); omega
theorem txC_len (a b : Int) (h0 : -9223372036854775808 ≤ a) (h1 : a ≤ 9223372036854775807) (h2 : -9223372036854775808 ≤ b) (h3 : b ≤ 9223372036854775807) : (txC a b).length ≤ 100 := by
  have ha := itoa_le a h0 h1
  have hb := itoa_le b h2 h3
  unfold txC; simp; omega
theorem prC_len (a b : Int) (h0 : -9223372036854775808 ≤ a) (h1 : a ≤ 9223372036854775807) (h2 : -9223372036854775808 ≤ b) (h3 : b ≤ 9223372036854775807) : (prC a b).length ≤ 100 := by
  unfold prC; split
  · simp
  · exact txC_len a b h0 h1 h2 h3
end Go.Proofs.YtbafjilhopgjmaaDoor.Pg
