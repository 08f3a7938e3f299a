/- Plain mathematics of JSON's tokens, second part: what stands in quotes, tokens, all tokens of a text; no program. -/
import Derived.Test.YtkphainopofejaaDoorJtRows
import Derived.Test.YtkphainopofejaaDoorUtWalks
import Derived.Test.YtkphainopofejaaDoorNuParses
namespace Go.Proofs.YtkphainopofejaaDoor.Jt
set_option linter.unusedSimpArgs false
set_option linter.unusedVariables false

/-- bytes as numbers, and back -/
def nl (l : List UInt8) : List Int := l.map nb
def bl (l : List Int) : List UInt8 := l.map fun z => UInt8.ofNat z.toNat
theorem nums_nl (s : ByteArray) : Ut.nums s = nl s.data.toList := rfl
theorem bl_nl (l : List UInt8) : bl (nl l) = l := by
  unfold bl nl
  rw [List.map_map]
  have : ((fun z : Int => UInt8.ofNat z.toNat) ∘ nb) = id := by funext c; simp [nb]
  rw [this, List.map_id]
theorem nl_drop (l : List UInt8) (k : Nat) : nl (l.drop k) = (nl l).drop k := by unfold nl; rw [List.map_drop]
theorem nl_take (l : List UInt8) (k : Nat) : nl (l.take k) = (nl l).take k := by unfold nl; rw [List.map_take]
theorem nl_len (l : List UInt8) : (nl l).length = l.length := by unfold nl; rw [List.length_map]
theorem nl_byt (l : List UInt8) : Ut.Byt (nl l) := by
  intro z hz
  obtain ⟨b, _, rfl⟩ := List.mem_map.1 hz
  exact nb_bd b
/-- the byte at a place, 0 behind the end -/
def at0 (l : List UInt8) (k : Nat) : Int := nb (l.getD k 0)
theorem at0_get {l : List UInt8} {k : Nat} (h : k < l.length) : at0 l k = nb l[k] := by unfold at0; rw [List.getD_eq_getElem?_getD, List.getElem?_eq_getElem h]; rfl
theorem gd_nl (l : List UInt8) (k : Nat) : Ut.gd (nl l) k = at0 l k := by
  unfold Ut.gd at0 nl
  rw [List.getD_eq_getElem?_getD, List.getD_eq_getElem?_getD, List.getElem?_map]
  cases l[k]? <;> rfl

/-- four digits by sixteen at a place; -1: they are none -/
def hexA (l : List UInt8) (k : Nat) : Int :=
  if l.length < k + 4 then -1 else if Nu.rdE 16 2147483647 (cutL l k (k + 4)) = 0 then Nu.rdN 16 2147483647 (cutL l k (k + 4)) else -1
/-- what a sign behind a backslash stands for; -1: nothing -/
def escI (c : Int) : Int := if c = 34 then 34 else if c = 92 then 92 else if c = 47 then 47 else if c = 98 then 8 else if c = 102 then 12 else if c = 110 then 10 else if c = 114 then 13 else if c = 116 then 9 else -1
/-- how many bytes the rune has at a place; 0: there is none -/
def runL (l : List UInt8) (k : Nat) : Nat := (Ut.nextW (nl (l.drop k))).2.toNat
/-- what the backslash at a place, with what belongs to it, stands for, and how many bytes that takes; 0: it is wrong -/
def backL (l : List UInt8) (k : Nat) : List UInt8 × Nat :=
  if l.length ≤ k + 1 then ([], 0)
  else if 0 ≤ escI (at0 l (k + 1)) then ([UInt8.ofNat (escI (at0 l (k + 1))).toNat], 2)
  else if at0 l (k + 1) ≠ 117 ∨ hexA l (k + 2) < 0 then ([], 0)
  else if (55296 ≤ hexA l (k + 2) ∧ hexA l (k + 2) < 56320) ∧ k + 7 < l.length ∧ at0 l (k + 6) = 92 ∧ at0 l (k + 7) = 117 ∧ 56320 ≤ hexA l (k + 8) ∧ hexA l (k + 8) < 57344
    then (bl (Ut.putI (65536 + (hexA l (k + 2) - 55296) * 1024 + hexA l (k + 8) - 56320)), 12)
  else if Ut.isR (hexA l (k + 2)) = true then (bl (Ut.putI (hexA l (k + 2))), 6) else ([], 0)
/-- what stands at a place in quotes: its bytes, how many it takes; 0: it is wrong -/
def unitL (l : List UInt8) (k : Nat) : List UInt8 × Nat :=
  if at0 l k < 32 ∨ at0 l k = 34 then ([], 0)
  else if at0 l k ≠ 92 then (if runL l k = 0 then ([], 0) else (cutL l k (k + runL l k), runL l k))
  else backL l k
/-- what stands in quotes from a place on, and behind the last one; none: it is wrong; f: how many steps at most -/
def textF (l : List UInt8) : Nat → Nat → Option (List UInt8 × Nat)
  | 0, _ => none
  | f + 1, k => if l.length ≤ k then none else if at0 l k = 34 then some ([], k + 1) else if (unitL l k).2 = 0 then none
    else (textF l f (k + (unitL l k).2)).map fun r => ((unitL l k).1 ++ r.1, r.2)
theorem textF_eq (l : List UInt8) : ∀ (f g k : Nat), l.length + 1 ≤ k + f → l.length + 1 ≤ k + g → textF l f k = textF l g k
  | 0, 0, k, _, _ => rfl
  | 0, g + 1, k, h, _ => by
    show none = textF l (g + 1) k
    unfold textF; rw [if_pos (by omega)]
  | f + 1, 0, k, _, h => by
    show textF l (f + 1) k = none
    unfold textF; rw [if_pos (by omega)]
  | f + 1, g + 1, k, h, h' => by
    unfold textF
    by_cases h1 : l.length ≤ k
    · rw [if_pos h1, if_pos h1]
    · rw [if_neg h1, if_neg h1]
      by_cases h3 : (unitL l k).2 = 0
      · rw [if_pos h3, if_pos h3]
      · rw [if_neg h3, if_neg h3, textF_eq l f g _ (by omega) (by omega)]
def textA (l : List UInt8) (k : Nat) : Option (List UInt8 × Nat) := textF l (l.length + 1) k
theorem text_end {l : List UInt8} {k : Nat} (h : l.length ≤ k) : textA l k = none := by unfold textA textF; rw [if_pos h]
theorem text_quote {l : List UInt8} {k : Nat} (h : k < l.length) (hq : at0 l k = 34) : textA l k = some ([], k + 1) := by unfold textA textF; rw [if_neg (by omega), if_pos hq]
theorem text_bad {l : List UInt8} {k : Nat} (hq : at0 l k ≠ 34) (hu : (unitL l k).2 = 0) : textA l k = none := by
  unfold textA textF
  by_cases h : l.length ≤ k
  · rw [if_pos h]
  · rw [if_neg h, if_neg hq, if_pos hu]
theorem text_step {l : List UInt8} {k : Nat} (h : k < l.length) (hq : at0 l k ≠ 34) (hu : (unitL l k).2 ≠ 0) : textA l k = (textA l (k + (unitL l k).2)).map fun r => ((unitL l k).1 ++ r.1, r.2) := by
  conv => lhs; unfold textA textF
  rw [if_neg (by omega), if_neg hq, if_neg hu, textF_eq l l.length (l.length + 1) _ (by omega) (by omega)]
  rfl

/-- the kind of a sign; 0: it is none -/
def sgnI (c : Int) : Nat := if c = 123 then 1 else if c = 125 then 2 else if c = 91 then 3 else if c = 93 then 4 else if c = 58 then 5 else if c = 44 then 6 else 0
def trueL : List UInt8 := [116, 114, 117, 101]
def falseL : List UInt8 := [102, 97, 108, 115, 101]
def nullL : List UInt8 := [110, 117, 108, 108]
/-- the kind of a word; 0: it is none -/
def wrdK (l : List UInt8) : Nat := if l = trueL then 9 else if l = falseL then 10 else if l = nullL then 11 else 0
structure Tok where
  k : Nat
  a : Nat
  b : Nat
  t : List UInt8
  n : Int
def zT : Tok := ⟨0, 0, 0, [], 0⟩
/-- the token that begins at a place, and what is amiss -/
def tokP (l : List UInt8) (p : Nat) : Tok × Int :=
  if sgnI (at0 l p) ≠ 0 then (⟨sgnI (at0 l p), p, p + 1, [], 0⟩, 0)
  else if at0 l p = 34 then (match textA l (p + 1) with | none => (zT, 3) | some r => (⟨7, p, r.2, r.1, 0⟩, 0))
  else if at0 l p = 45 ∨ Ch.digB (at0 l p) = true then
    (if Nu.pE (cutL l p (endP numB l p)) = 0 then (⟨8, p, endP numB l p, [], Nu.pN (cutL l p (endP numB l p))⟩, 0) else (zT, Nu.pE (cutL l p (endP numB l p))))
  else if wrdK (cutL l p (endP wordB l p)) = 0 then (zT, 3)
  else (⟨wrdK (cutL l p (endP wordB l p)), p, endP wordB l p, [], 0⟩, 0)
/-- the token behind the blanks at a place that there is, and what is amiss -/
def tokA (l : List UInt8) (k : Nat) : Tok × Int := if l.length ≤ endP blkB l k then (zT, 6) else tokP l (endP blkB l k)
/-- all tokens from a place on, where it went wrong, and how; f: how many steps at most -/
def allF (l : List UInt8) : Nat → Nat → List Tok × Nat × Int
  | 0, _ => ([], l.length, 0)
  | f + 1, k => if (tokA l k).2 = 6 then ([], l.length, 0) else if (tokA l k).2 ≠ 0 then ([], endP blkB l k, (tokA l k).2)
    else ((tokA l k).1 :: (allF l f (tokA l k).1.b).1, (allF l f (tokA l k).1.b).2)
end Go.Proofs.YtkphainopofejaaDoor.Jt
