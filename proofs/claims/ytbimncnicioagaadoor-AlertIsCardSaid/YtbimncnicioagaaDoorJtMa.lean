/- Contracts and plain mathematics of some packages' functions, laid together; conditions as each one says. -/
import Derived.Test.YtbimncnicioagaaDoorJtRows
import Derived.Test.YtbimncnicioagaaDoorUtMa
import Derived.Test.YtbimncnicioagaaDoorNuMa
import Derived.StillTailTactics
import Derived.Deep.QuietTactic
import Derived.BigQuiet
import Derived.Deep.RegionHeld3
namespace Go.Proofs.YtbimncnicioagaaDoor.Jt
set_option linter.unusedSimpArgs false
set_option linter.unusedVariables false

/-- bytes as numbers, and back -/
def nl (l : List UInt8) : List Int := l.map nb
def bl (l : List Int) : List UInt8 := l.map fun z => UInt8.ofNat z.toNat
theorem nums_nl (s : ByteArray) : Ut.nums s = nl s.data.toList := rfl
theorem bl_nl (l : List UInt8) : bl (nl l) = l := by
  unfold bl nl
  rw [List.map_map]
  have : ((fun z : Int => UInt8.ofNat z.toNat) ∘ nb) = id := by funext c; simp [nb]
  rw [this, List.map_id]
theorem nl_drop (l : List UInt8) (k : Nat) : nl (l.drop k) = (nl l).drop k := by unfold nl; rw [List.map_drop]
theorem nl_take (l : List UInt8) (k : Nat) : nl (l.take k) = (nl l).take k := by unfold nl; rw [List.map_take]
theorem nl_len (l : List UInt8) : (nl l).length = l.length := by unfold nl; rw [List.length_map]
theorem nl_byt (l : List UInt8) : Ut.Byt (nl l) := by
  intro z hz
  obtain ⟨b, _, rfl⟩ := List.mem_map.1 hz
  exact nb_bd b
/-- the byte at a place, 0 behind the end -/
def at0 (l : List UInt8) (k : Nat) : Int := nb (l.getD k 0)
theorem at0_get {l : List UInt8} {k : Nat} (h : k < l.length) : at0 l k = nb l[k] := by unfold at0; rw [List.getD_eq_getElem?_getD, List.getElem?_eq_getElem h]; rfl
theorem gd_nl (l : List UInt8) (k : Nat) : Ut.gd (nl l) k = at0 l k := by
  unfold Ut.gd at0 nl
  rw [List.getD_eq_getElem?_getD, List.getD_eq_getElem?_getD, List.getElem?_map]
  cases l[k]? <;> rfl

/-- four digits by sixteen at a place; -1: they are none -/
def hexA (l : List UInt8) (k : Nat) : Int :=
  if l.length < k + 4 then -1 else if Nu.rdE 16 2147483647 (cutL l k (k + 4)) = 0 then Nu.rdN 16 2147483647 (cutL l k (k + 4)) else -1
/-- what a sign behind a backslash stands for; -1: nothing -/
def escI (c : Int) : Int := if c = 34 then 34 else if c = 92 then 92 else if c = 47 then 47 else if c = 98 then 8 else if c = 102 then 12 else if c = 110 then 10 else if c = 114 then 13 else if c = 116 then 9 else -1
/-- how many bytes the rune has at a place; 0: there is none -/
def runL (l : List UInt8) (k : Nat) : Nat := (Ut.nextW (nl (l.drop k))).2.toNat
/-- what the backslash at a place, with what belongs to it, stands for, and how many bytes that takes; 0: it is wrong -/
def backL (l : List UInt8) (k : Nat) : List UInt8 × Nat :=
  if l.length ≤ k + 1 then ([], 0)
  else if 0 ≤ escI (at0 l (k + 1)) then ([UInt8.ofNat (escI (at0 l (k + 1))).toNat], 2)
  else if at0 l (k + 1) ≠ 117 ∨ hexA l (k + 2) < 0 then ([], 0)
  else if (55296 ≤ hexA l (k + 2) ∧ hexA l (k + 2) < 56320) ∧ k + 7 < l.length ∧ at0 l (k + 6) = 92 ∧ at0 l (k + 7) = 117 ∧ 56320 ≤ hexA l (k + 8) ∧ hexA l (k + 8) < 57344
    then (bl (Ut.putI (65536 + (hexA l (k + 2) - 55296) * 1024 + hexA l (k + 8) - 56320)), 12)
  else if Ut.isR (hexA l (k + 2)) = true then (bl (Ut.putI (hexA l (k + 2))), 6) else ([], 0)
/-- what stands at a place in quotes: its bytes, how many it takes; 0: it is wrong -/
def unitL (l : List UInt8) (k : Nat) : List UInt8 × Nat :=
  if at0 l k < 32 ∨ at0 l k = 34 then ([], 0)
  else if at0 l k ≠ 92 then (if runL l k = 0 then ([], 0) else (cutL l k (k + runL l k), runL l k))
  else backL l k
/-- what stands in quotes from a place on, and behind the last one; none: it is wrong; f: how many steps at most -/
def textF (l : List UInt8) : Nat → Nat → Option (List UInt8 × Nat)
  | 0, _ => none
  | f + 1, k => if l.length ≤ k then none else if at0 l k = 34 then some ([], k + 1) else if (unitL l k).2 = 0 then none
    else (textF l f (k + (unitL l k).2)).map fun r => ((unitL l k).1 ++ r.1, r.2)
theorem textF_eq (l : List UInt8) : ∀ (f g k : Nat), l.length + 1 ≤ k + f → l.length + 1 ≤ k + g → textF l f k = textF l g k
  | 0, 0, k, _, _ => rfl
  | 0, g + 1, k, h, _ => by
    show none = textF l (g + 1) k
    unfold textF; rw [if_pos (by omega)]
  | f + 1, 0, k, _, h => by
    show textF l (f + 1) k = none
    unfold textF; rw [if_pos (by omega)]
  | f + 1, g + 1, k, h, h' => by
    unfold textF
    by_cases h1 : l.length ≤ k
    · rw [if_pos h1, if_pos h1]
    · rw [if_neg h1, if_neg h1]
      by_cases h3 : (unitL l k).2 = 0
      · rw [if_pos h3, if_pos h3]
      · rw [if_neg h3, if_neg h3, textF_eq l f g _ (by omega) (by omega)]
def textA (l : List UInt8) (k : Nat) : Option (List UInt8 × Nat) := textF l (l.length + 1) k
theorem text_end {l : List UInt8} {k : Nat} (h : l.length ≤ k) : textA l k = none := by unfold textA textF; rw [if_pos h]
theorem text_quote {l : List UInt8} {k : Nat} (h : k < l.length) (hq : at0 l k = 34) : textA l k = some ([], k + 1) := by unfold textA textF; rw [if_neg (by omega), if_pos hq]
theorem text_bad {l : List UInt8} {k : Nat} (hq : at0 l k ≠ 34) (hu : (unitL l k).2 = 0) : textA l k = none := by
  unfold textA textF
  by_cases h : l.length ≤ k
  · rw [if_pos h]
  · rw [if_neg h, if_neg hq, if_pos hu]
theorem text_step {l : List UInt8} {k : Nat} (h : k < l.length) (hq : at0 l k ≠ 34) (hu : (unitL l k).2 ≠ 0) : textA l k = (textA l (k + (unitL l k).2)).map fun r => ((unitL l k).1 ++ r.1, r.2) := by
  conv => lhs; unfold textA textF
  rw [if_neg (by omega), if_neg hq, if_neg hu, textF_eq l l.length (l.length + 1) _ (by omega) (by omega)]
  rfl

/-- the kind of a sign; 0: it is none -/
def sgnI (c : Int) : Nat := if c = 123 then 1 else if c = 125 then 2 else if c = 91 then 3 else if c = 93 then 4 else if c = 58 then 5 else if c = 44 then 6 else 0
def trueL : List UInt8 := [116, 114, 117, 101]
def falseL : List UInt8 := [102, 97, 108, 115, 101]
def nullL : List UInt8 := [110, 117, 108, 108]
/-- the kind of a word; 0: it is none -/
def wrdK (l : List UInt8) : Nat := if l = trueL then 9 else if l = falseL then 10 else if l = nullL then 11 else 0
structure Tok where
  k : Nat
  a : Nat
  b : Nat
  t : List UInt8
  n : Int
def zT : Tok := ⟨0, 0, 0, [], 0⟩
/-- the token that begins at a place, and what is amiss -/
def tokP (l : List UInt8) (p : Nat) : Tok × Int :=
  if sgnI (at0 l p) ≠ 0 then (⟨sgnI (at0 l p), p, p + 1, [], 0⟩, 0)
  else if at0 l p = 34 then (match textA l (p + 1) with | none => (zT, 3) | some r => (⟨7, p, r.2, r.1, 0⟩, 0))
  else if at0 l p = 45 ∨ Ch.digB (at0 l p) = true then
    (if Nu.pE (cutL l p (endP numB l p)) = 0 then (⟨8, p, endP numB l p, [], Nu.pN (cutL l p (endP numB l p))⟩, 0) else (zT, Nu.pE (cutL l p (endP numB l p))))
  else if wrdK (cutL l p (endP wordB l p)) = 0 then (zT, 3)
  else (⟨wrdK (cutL l p (endP wordB l p)), p, endP wordB l p, [], 0⟩, 0)
/-- the token behind the blanks at a place that there is, and what is amiss -/
def tokA (l : List UInt8) (k : Nat) : Tok × Int := if l.length ≤ endP blkB l k then (zT, 6) else tokP l (endP blkB l k)
/-- all tokens from a place on, where it went wrong, and how; f: how many steps at most -/
def allF (l : List UInt8) : Nat → Nat → List Tok × Nat × Int
  | 0, _ => ([], l.length, 0)
  | f + 1, k => if (tokA l k).2 = 6 then ([], l.length, 0) else if (tokA l k).2 ≠ 0 then ([], endP blkB l k, (tokA l k).2)
    else ((tokA l k).1 :: (allF l f (tokA l k).1.b).1, (allF l f (tokA l k).1.b).2)
end Go.Proofs.YtbimncnicioagaaDoor.Jt
namespace Go.Proofs.YtbimncnicioagaaDoor.Jt
set_option linter.unusedSimpArgs false
set_option linter.unusedVariables false

theorem run_zs {zs : List Int} (h : zs ≠ []) : (Ut.nextW zs).2.toNat = if Ut.szI (Ut.gd zs 0) ≤ zs.length ∧ Ut.okTo zs (Ut.szI (Ut.gd zs 0)) then Ut.szI (Ut.gd zs 0) else 0 := by
  unfold Ut.nextW Ut.nextR
  rw [if_neg h]
  by_cases h0 : Ut.szI (Ut.gd zs 0) = 0
  · rw [if_pos h0, h0]; simp
  · rw [if_neg h0]
    by_cases hl : zs.length < Ut.szI (Ut.gd zs 0)
    · rw [if_neg (show ¬ (Ut.szI (Ut.gd zs 0) ≤ zs.length ∧ _) from fun h => by omega)]
      split
      · rfl
      · rfl
    · rw [show min zs.length (Ut.szI (Ut.gd zs 0)) = Ut.szI (Ut.gd zs 0) by omega]
      by_cases ho : Ut.okTo zs (Ut.szI (Ut.gd zs 0))
      · rw [if_pos ho, if_neg hl, if_pos ⟨by omega, ho⟩]; simp
      · rw [if_neg ho, if_neg (fun h => ho h.2)]; rfl
theorem next_pos (zs : List Int) : 0 < (Ut.nextW zs).2 ↔ (Ut.nextW zs).2.toNat ≠ 0 := by omega
theorem okAt_hi {zs : List Int} {j : Nat} (h : Ut.okAt zs j) : 128 ≤ Ut.gd zs j := by
  unfold Ut.okAt at h
  by_cases e : j = 1
  · subst e
    rw [if_pos rfl] at h
    have : 128 ≤ Ut.lo2 (Ut.gd zs 0) := by unfold Ut.lo2; split <;> (try split) <;> omega
    omega
  · rw [if_neg e] at h; exact h.1
theorem okAt_cong {zs ys : List Int} {j : Nat} (h0 : Ut.gd zs 0 = Ut.gd ys 0) (hj : Ut.gd zs j = Ut.gd ys j) : Ut.okAt zs j ↔ Ut.okAt ys j := by
  unfold Ut.okAt
  by_cases e : j = 1
  · subst e; rw [if_pos rfl, if_pos rfl, h0, hj]
  · rw [if_neg e, if_neg e, hj]
theorem at0_drop (l : List UInt8) (a j : Nat) : at0 (l.drop a) j = at0 l (a + j) := by
  unfold at0; rw [List.getD_eq_getElem?_getD, List.getD_eq_getElem?_getD, List.getElem?_drop]
theorem at0_cut {l : List UInt8} {a b j : Nat} (hb : b ≤ l.length) (h : a + j < b) : at0 (cutL l a b) j = at0 l (a + j) := by
  unfold at0 cutL
  rw [List.getD_eq_getElem?_getD, List.getD_eq_getElem?_getD, List.getElem?_take_of_lt (by omega), List.getElem?_drop]
theorem cut_drop {l : List UInt8} {a b k : Nat} : (cutL l a b).drop k = cutL l (a + k) b := by
  unfold cutL; rw [List.drop_take, List.drop_drop, show b - a - k = b - (a + k) by omega]
theorem cut_app {l : List UInt8} {a b c : Nat} (h1 : a ≤ b) (h2 : b ≤ c) : cutL l a b ++ cutL l b c = cutL l a c := by
  unfold cutL
  rw [show c - a = (b - a) + (c - b) by omega, List.take_add, List.drop_drop, show a + (b - a) = b by omega]
theorem cut_nil (l : List UInt8) (a : Nat) : cutL l a a = [] := by unfold cutL; simp
theorem hi_pln {c : UInt8} (h : 128 ≤ nb c) : plnB c = true := by unfold plnB; rw [decide_eq_true_eq]; omega
theorem run_row {l : List UInt8} {a p : Nat} (ha : a ≤ p) (hp : p < endP plnB l a) (hl : a ≤ l.length) : (Ut.nextW (nl (cutL l p (endP plnB l a)))).2.toNat = runL l p := by
  have he := endP_le (p := plnB) hl
  have hz : nl (cutL l p (endP plnB l a)) ≠ [] := fun e => by have := congrArg List.length e; rw [nl_len, cutL_len he, List.length_nil] at this; omega
  have hy : nl (l.drop p) ≠ [] := fun e => by have := congrArg List.length e; rw [nl_len, List.length_drop, List.length_nil] at this; omega
  unfold runL
  rw [run_zs hz, run_zs hy, nl_len, nl_len, cutL_len he, List.length_drop]
  have hg : ∀ j, p + j < endP plnB l a → Ut.gd (nl (cutL l p (endP plnB l a))) j = Ut.gd (nl (l.drop p)) j := fun j hj => by
    rw [gd_nl, gd_nl, at0_cut he hj, at0_drop]
  have h0 := hg 0 (by omega)
  rw [h0]
  have key : (Ut.szI (Ut.gd (nl (l.drop p)) 0) ≤ endP plnB l a - p ∧ Ut.okTo (nl (cutL l p (endP plnB l a))) (Ut.szI (Ut.gd (nl (l.drop p)) 0))) ↔ (Ut.szI (Ut.gd (nl (l.drop p)) 0) ≤ l.length - p ∧ Ut.okTo (nl (l.drop p)) (Ut.szI (Ut.gd (nl (l.drop p)) 0))) := by
    constructor
    · rintro ⟨h1, h2⟩
      exact ⟨by omega, fun j hj h1' => (okAt_cong h0 (hg j (by omega))).1 (h2 j hj h1')⟩
    · rintro ⟨h1, h2⟩
      rcases Nat.lt_or_ge (endP plnB l a - p) (Ut.szI (Ut.gd (nl (l.drop p)) 0)) with h | h
      · have h3 := okAt_hi (h2 (endP plnB l a - p) h (by omega))
        have hlt : endP plnB l a < l.length := by omega
        rw [gd_nl, at0_drop, show p + (endP plnB l a - p) = endP plnB l a by omega, at0_get hlt] at h3
        have h4 := endP_stop hlt
        rw [hi_pln h3] at h4
        cases h4
      · exact ⟨h, fun j hj h1' => (okAt_cong h0 (hg j (by omega))).2 (h2 j hj h1')⟩
  by_cases hc : (Ut.szI (Ut.gd (nl (l.drop p)) 0) ≤ l.length - p ∧ Ut.okTo (nl (l.drop p)) (Ut.szI (Ut.gd (nl (l.drop p)) 0)))
  · rw [if_pos hc, if_pos (key.2 hc)]
  · rw [if_neg hc, if_neg (fun h => hc (key.1 h))]
theorem pln_at {l : List UInt8} {k : Nat} (h : k < l.length) (hp : plnB l[k] = true) : ¬ (at0 l k < 32 ∨ at0 l k = 34) ∧ at0 l k ≠ 34 ∧ ¬ at0 l k = 92 := by
  rw [at0_get h]
  unfold plnB at hp
  rw [decide_eq_true_eq] at hp
  omega
theorem unit_pln {l : List UInt8} {k : Nat} (h : k < l.length) (hp : plnB l[k] = true) : unitL l k = if runL l k = 0 then ([], 0) else (cutL l k (k + runL l k), runL l k) := by
  obtain ⟨h1, _, h2⟩ := pln_at h hp
  unfold unitL; rw [if_neg h1, if_pos h2]
theorem map_app {r : Option (List UInt8 × Nat)} (a b : List UInt8) : (r.map fun r => (b ++ r.1, r.2)).map (fun r => (a ++ r.1, r.2)) = r.map fun r => ((a ++ b) ++ r.1, r.2) := by
  cases r <;> simp
/-- the walk over a row of plain bytes, and what is read of it -/
theorem row_walk {l : List UInt8} {a : Nat} (hl : a ≤ l.length) : ∀ (f n p : Nat), a ≤ p → p ≤ endP plnB l a → endP plnB l a ≤ p + f →
    ((Ut.walkP (nl (cutL l a (endP plnB l a))) f n (p - a)).2 = endP plnB l a - a → textA l p = (textA l (endP plnB l a)).map fun r => (cutL l p (endP plnB l a) ++ r.1, r.2)) ∧
    ((Ut.walkP (nl (cutL l a (endP plnB l a))) f n (p - a)).2 ≠ endP plnB l a - a → textA l p = none) := by
  have he := endP_le (p := plnB) hl
  have hlen : (nl (cutL l a (endP plnB l a))).length = endP plnB l a - a := by rw [nl_len, cutL_len he]
  have hdr : ∀ p, a ≤ p → (nl (cutL l a (endP plnB l a))).drop (p - a) = nl (cutL l p (endP plnB l a)) := fun p hp => by
    rw [← nl_drop, cut_drop, show a + (p - a) = p by omega]
  intro f
  induction f with
  | zero =>
    intro n p ha hp hf
    obtain rfl : p = endP plnB l a := by omega
    refine ⟨fun _ => ?_, fun h => absurd rfl h⟩
    rw [cut_nil]
    cases textA l (endP plnB l a) <;> simp
  | succ f ih =>
    intro n p ha hp hf
    by_cases hpe : p = endP plnB l a
    · rw [Ut.walkP_stop (fun h => by rw [hlen] at h; omega)]
      refine ⟨fun _ => ?_, fun h => absurd (by show p - a = _; omega) h⟩
      rw [hpe, cut_nil]
      cases textA l (endP plnB l a) <;> simp
    · have hplt : p < endP plnB l a := by omega
      have hpl : p < l.length := by omega
      have hpp : plnB l[p] = true := (endP_all ha hplt).2
      have hr := run_row ha hplt hl
      have hu := unit_pln hpl hpp
      have hq := (pln_at hpl hpp).2.1
      by_cases hk : runL l p = 0
      · rw [Ut.walkP_stop (fun h => by rw [hdr p ha, next_pos, hr] at h; exact h.2 hk)]
        refine ⟨fun h => absurd h (by show ¬ (p - a = _); omega), fun _ => text_bad hq (by rw [hu, if_pos hk])⟩
      · have hkl : runL l p ≤ endP plnB l a - p := by
          have := (Ut.nextW_k (nl (cutL l p (endP plnB l a)))).1
          rw [nl_len, cutL_len he] at this
          omega
        have hstep : textA l p = (textA l (p + runL l p)).map fun r => (cutL l p (p + runL l p) ++ r.1, r.2) := by
          have := text_step hpl hq (by rw [hu, if_neg hk]; exact hk)
          rw [hu, if_neg hk] at this
          exact this
        have hw : Ut.walkP (nl (cutL l a (endP plnB l a))) (f + 1) n (p - a) = Ut.walkP (nl (cutL l a (endP plnB l a))) f (n + 1) (p + runL l p - a) := by
          conv => lhs; unfold Ut.walkP
          rw [if_pos ⟨by rw [hlen]; omega, by rw [hdr p ha, next_pos, hr]; exact hk⟩, hdr p ha, hr, show p - a + runL l p = p + runL l p - a by omega]
        obtain ⟨i1, i2⟩ := ih (n + 1) (p + runL l p) (by omega) (by omega) (by omega)
        rw [hw]
        refine ⟨fun h => ?_, fun h => ?_⟩
        · rw [hstep, i1 h, map_app, cut_app (by omega) (by omega)]
        · rw [hstep, i2 h]; rfl
/-- is a text runes' bytes? -/
def vldB (l : List UInt8) : Bool := decide ((Ut.walkL (nl l)).2 = l.length)
theorem text_row {l : List UInt8} {a : Nat} (hl : a ≤ l.length) : textA l a = if vldB (cutL l a (endP plnB l a)) = true then (textA l (endP plnB l a)).map fun r => (cutL l a (endP plnB l a) ++ r.1, r.2) else none := by
  have he := endP_le (p := plnB) hl
  have h := row_walk hl (nl (cutL l a (endP plnB l a))).length 0 a (Nat.le_refl _) (endP_ge _ _ _) (by rw [nl_len, cutL_len he]; omega)
  rw [Nat.sub_self] at h
  unfold vldB Ut.walkL
  rw [cutL_len he]
  by_cases hc : (Ut.walkP (nl (cutL l a (endP plnB l a))) (nl (cutL l a (endP plnB l a))).length 0 0).2 = endP plnB l a - a
  · rw [if_pos (decide_eq_true hc)]; exact h.1 hc
  · rw [if_neg (by simpa using hc)]; exact h.2 hc
/-- what the part of a text in quotes stands for that begins at a place, and how many bytes that takes; 0: it is wrong -/
def pieceL (l : List UInt8) (k : Nat) : List UInt8 × Nat :=
  if at0 l k = 92 then backL l k
  else if k < endP plnB l k ∧ vldB (cutL l k (endP plnB l k)) = true then (cutL l k (endP plnB l k), endP plnB l k - k) else ([], 0)
theorem piece_bad {l : List UInt8} {k : Nat} (h : k < l.length) (hq : at0 l k ≠ 34) (hu : (pieceL l k).2 = 0) : textA l k = none := by
  unfold pieceL at hu
  by_cases hb : at0 l k = 92
  · rw [if_pos hb] at hu
    exact text_bad hq (by unfold unitL; rw [if_neg (by omega), if_neg (by omega)]; exact hu)
  · rw [if_neg hb] at hu
    by_cases hc : k < endP plnB l k ∧ vldB (cutL l k (endP plnB l k)) = true
    · rw [if_pos hc] at hu; exact absurd hu (by show ¬ (endP plnB l k - k = 0); omega)
    · by_cases hlt : k < endP plnB l k
      · rw [text_row (by omega), if_neg (fun g => hc ⟨hlt, g⟩)]
      · have hn : plnB l[k] = false := by
          have e : endP plnB l k = k := by have := endP_ge plnB l k; omega
          have := endP_stop (p := plnB) (l := l) (k := k) (by omega)
          simpa only [e] using this
        refine text_bad hq ?_
        unfold plnB at hn
        rw [decide_eq_false_iff_not] at hn
        rw [at0_get h] at hb hq
        unfold unitL
        rw [at0_get h, if_pos (by omega)]
theorem piece_step {l : List UInt8} {k : Nat} (h : k < l.length) (hq : at0 l k ≠ 34) (hu : (pieceL l k).2 ≠ 0) : textA l k = (textA l (k + (pieceL l k).2)).map fun r => ((pieceL l k).1 ++ r.1, r.2) := by
  by_cases hb : at0 l k = 92
  · have e : pieceL l k = unitL l k := by unfold pieceL unitL; rw [if_pos hb, if_neg (by omega), if_neg (by omega)]
    rw [e] at hu ⊢
    exact text_step h hq hu
  · by_cases hc : k < endP plnB l k ∧ vldB (cutL l k (endP plnB l k)) = true
    · have e : pieceL l k = (cutL l k (endP plnB l k), endP plnB l k - k) := by unfold pieceL; rw [if_neg hb, if_pos hc]
      rw [e]
      show textA l k = (textA l (k + (endP plnB l k - k))).map _
      rw [show k + (endP plnB l k - k) = endP plnB l k by omega, text_row (by omega), if_pos hc.2]
    · exact absurd (by unfold pieceL; rw [if_neg hb, if_neg hc]) hu
end Go.Proofs.YtbimncnicioagaaDoor.Jt
namespace Go.Proofs.YtbimncnicioagaaDoor.Jt
open Go.RowKit
set_option linter.unusedSimpArgs false
set_option linter.unusedVariables false

theorem ret_bool {a b : Bool} (h : a = b) : Ending.returned (.bool a) = .returned (.bool b) := by rw [h]
theorem ret_int {k : IntKind} {a b : Int} (h : a = b) : Ending.returned (.int k a) = .returned (.int k b) := by rw [h]
def blkI (c : Int) : Bool := decide (c = 32 ∨ c = 9 ∨ c = 10 ∨ c = 13)
def wordI (c : Int) : Bool := Ch.letB c || Ch.digB c
def sgnB (c : Int) : Bool := decide (c = 43 ∨ c = 45 ∨ c = 46)
def numI (c : Int) : Bool := wordI c || sgnB c
def plnI (c : Int) : Bool := decide (32 ≤ c ∧ c ≠ 34 ∧ c ≠ 92)
theorem data_at {s : ByteArray} {k : Nat} (h : k < s.size) (h' : k < s.data.toList.length) : s.data.toList[k] = s[k] := Nu.gdat s k h
theorem size_l (s : ByteArray) : s.size = s.data.toList.length := Lib.size_eq s
end Go.Proofs.YtbimncnicioagaaDoor.Jt
namespace Go.Proofs.YtbimncnicioagaaDoor.Jt
open Go.RowKit
set_option linter.unusedSimpArgs false
set_option linter.unusedVariables false

/-- a token as the program has it; what is amiss -/
def tokV (k a b : Int) (t : ByteArray) (n : Int) : Value := .agg #[.int .i64 k, .int .i64 a, .int .i64 b, .string t, .int .i64 n]
def emS : ByteArray := ⟨#[]⟩
def tupV (x y : Value) : Ending := .returned (.tuple #[x, y])
theorem byte_q (s : ByteArray) (k : Nat) (h : k < s.size) (z : Int) : ((s[k].toNat : Int) == z) = decide (at0 s.data.toList k = z) := by
  have h' : k < s.data.toList.length := by rw [← size_l]; exact h
  rw [at0_get h', data_at h h']
  rw [Bool.eq_iff_iff, beq_iff_eq, decide_eq_true_eq]; rfl
theorem byte_i (s : ByteArray) (k : Nat) (h : k < s.size) : (s[k].toNat : Int) = at0 s.data.toList k := by
  have h' : k < s.data.toList.length := by rw [← size_l]; exact h
  rw [at0_get h', data_at h h']
  rfl
end Go.Proofs.YtbimncnicioagaaDoor.Jt
namespace Go.Proofs.YtbimncnicioagaaDoor.Jt
open Go.RowKit
set_option linter.unusedSimpArgs false
set_option linter.unusedVariables false

theorem ext_list (s : ByteArray) (a b : Nat) : (s.extract a b).toList = cutL s.data.toList a b := by rw [Lib.toList_data, extract_cut]
end Go.Proofs.YtbimncnicioagaaDoor.Jt
namespace Go.Proofs.YtbimncnicioagaaDoor.Jt
open Go.RowKit
set_option linter.unusedSimpArgs false
set_option linter.unusedVariables false

theorem valid_c (s : ByteArray) (w : World) (hT : Ut.Tabs w) (hs : s.size ≤ 1000) : Calls Tryd.prog 46 #[.string s] w fun e w' => e = .returned (.bool (vldB s.data.toList)) ∧ Below w.heap.size w w' := by
  have HW := Lib.hid (Ut.walk_c s w hT hs)
  have HV : Hid (vldB s.data.toList = decide ((Ut.walkL (Ut.nums s)).2 = s.size)) := by
    show vldB s.data.toList = _
    unfold vldB; rw [nums_nl, size_l]
  revert HW HV
  generalize Ut.walkL (Ut.nums s) = q
  intro HW HV
  obtain ⟨n, k⟩ := q
  simp only [Ut.tup2] at HW HV
  clear hT
  go_enter Tryd.func46, Tryd.ntmps46
  go_wp2_with fail
  refine HW.out.mono ?_
  rintro e w1 ⟨rfl, hb1⟩
  have B1 := Lib.hid hb1
  clear hb1
  go_wp2
  go_ret
  refine ⟨ret_bool ?_, B1.out⟩
  rw [HV.out, Bool.eq_iff_iff]
  simp
  try omega
theorem ret_pair {a b : Int} (h : a = b) : Ending.returned (.tuple #[.int .i32 a, .bool true]) = .returned (.tuple #[.int .i32 b, .bool true]) := by rw [h]
/-- what the unit at a place is: -1: none -/
def uniA (l : List UInt8) (k : Nat) : Int := if k + 6 ≤ l.length ∧ at0 l k = 92 ∧ at0 l (k + 1) = 117 then hexA l (k + 2) else -1
theorem rd_four (l : List UInt8) (h : l.length = 4) : 0 ≤ Nu.rdN 16 2147483647 l ∧ Nu.rdN 16 2147483647 l ≤ 65535 := by
  unfold Nu.rdN
  split
  · rename_i g
    have := Nu.val_bd (B := 16) (.inr rfl) l g.2.1
    rw [h] at this
    have e : (16 : Int) ^ 4 = 65536 := by decide
    omega
  · omega
theorem hexA_bd (l : List UInt8) (k : Nat) : -1 ≤ hexA l k ∧ hexA l k ≤ 65535 := by
  unfold hexA
  split
  · omega
  · rename_i h
    split
    · have := rd_four (cutL l k (k + 4)) (by rw [cutL_len (by omega)]; omega)
      omega
    · omega
theorem rdE_cases (B M : Int) (l : List UInt8) : Nu.rdE B M l = 0 ∨ ((Nu.rdE B M l == 0) = false ∧ Nu.rdN B M l = 0) := by
  unfold Nu.rdE Nu.rdN
  by_cases h : l ≠ [] ∧ l.all (Nu.okD B) = true
  · rw [if_pos h]
    by_cases h2 : Nu.val B l ≤ M
    · rw [if_pos h2]; exact .inl rfl
    · rw [if_neg h2, if_neg (fun g => h2 g.2.2)]; exact .inr ⟨by decide, rfl⟩
  · rw [if_neg h, if_neg (fun g => h ⟨g.1, g.2.1⟩)]; exact .inr ⟨by decide, rfl⟩
end Go.Proofs.YtbimncnicioagaaDoor.Jt
namespace Go.Proofs.YtbimncnicioagaaDoor.Jt
open Go.RowKit
set_option linter.unusedSimpArgs false
set_option linter.unusedVariables false

def mkS (l : List UInt8) : ByteArray := ⟨l.toArray⟩
theorem mkS_of {s : ByteArray} {l : List UInt8} (h : s.data.toList = l) : s = mkS l := by subst h; exact (Lib.mk_data s).symm
theorem data_mkS (l : List UInt8) : (mkS l).data.toList = l := rfl
theorem size_mkS (l : List UInt8) : (mkS l).size = l.length := by rw [size_l, data_mkS]
def tup3 (x : ByteArray) (k : Int) (b : Bool) : Ending := .returned (.tuple #[.string x, .int .i64 k, .bool b])
theorem bl_len (l : List Int) : (bl l).length = l.length := by unfold bl; rw [List.length_map]
theorem nl_bl {zs : List Int} (h : Ut.Byt zs) : nl (bl zs) = zs := by
  unfold nl bl
  rw [List.map_map]
  conv => rhs; rw [← List.map_id zs]
  apply List.map_congr_left
  intro z hz
  have := h z hz
  show nb (UInt8.ofNat z.toNat) = z
  unfold nb
  have e : (UInt8.ofNat z.toNat).toNat = z.toNat % 256 := by simp
  rw [e]; omega
theorem bts_back {w : World} {g cap : Nat} {zs : List Int} (h : Ut.Bts w g 0 zs) (hy : Ut.Byt zs) : (convert 68 9 (.slice (some ⟨g, 0, none⟩) zs.length cap)).run Tryd.prog w = .ok (.string (mkS (bl zs))) w := by
  have e := run_convert_bytes_back w 68 9 5 ⟨g, 0, none⟩ cap (bl zs) Tryd.underlying68 Tryd.underlying5 Tryd.underlying9 (fun j hj => ?_)
  · rw [bl_len] at e; exact e
  · have hj' : j < zs.length := by rw [bl_len] at hj; exact hj
    have hc := h j hj'
    have ea : (⟨g, 0, none⟩ : Addr).add j = ⟨g, 0 + j, none⟩ := by unfold Addr.add; split <;> simp_all
    rw [ea, hc]
    have hn : (nl (bl zs))[j]'(by rw [nl_len]; exact hj) = zs[j] := by
      have := nl_bl hy
      simp only [this]
    rw [← hn]
    simp [nl, nb]
/-- what the half behind the first one makes -/
theorem back_u {l : List UInt8} {k : Nat} (h1 : k + 1 < l.length) (h2 : at0 l k = 92) (h3 : at0 l (k + 1) = 117) :
    backL l k = if uniA l k < 0 then ([], 0)
      else if (55296 ≤ uniA l k ∧ uniA l k < 56320) ∧ 56320 ≤ uniA l (k + 6) ∧ uniA l (k + 6) < 57344 then (bl (Ut.putI (65536 + (uniA l k - 55296) * 1024 + uniA l (k + 6) - 56320)), 12)
      else if Ut.isR (uniA l k) = true then (bl (Ut.putI (uniA l k)), 6) else ([], 0) := by
  have e0 : uniA l k = hexA l (k + 2) := by
    unfold uniA
    by_cases h : k + 6 ≤ l.length
    · rw [if_pos ⟨h, h2, h3⟩]
    · rw [if_neg (fun g => h g.1)]; unfold hexA; rw [if_pos (by omega)]
  have e1 : escI 117 = -1 := by decide
  unfold backL
  rw [if_neg (by omega), h3, e1, if_neg (by decide), e0]
  by_cases hx : hexA l (k + 2) < 0
  · rw [if_pos (.inr hx), if_pos hx]
  · rw [if_neg (fun g => by rcases g with g | g; exact g rfl; exact hx g), if_neg hx]
    by_cases hp : (55296 ≤ hexA l (k + 2) ∧ hexA l (k + 2) < 56320) ∧ 56320 ≤ uniA l (k + 6) ∧ uniA l (k + 6) < 57344
    · have hu : (k + 6) + 6 ≤ l.length ∧ at0 l (k + 6) = 92 ∧ at0 l (k + 6 + 1) = 117 := by
        by_cases hh : (k + 6) + 6 ≤ l.length ∧ at0 l (k + 6) = 92 ∧ at0 l (k + 6 + 1) = 117
        · exact hh
        · have := hp.2.1; unfold uniA at this; rw [if_neg hh] at this; omega
      have e2 : uniA l (k + 6) = hexA l (k + 8) := by unfold uniA; rw [if_pos hu]
      rw [if_pos hp]
      rw [e2] at hp ⊢
      rw [if_pos ⟨hp.1, by omega, hu.2.1, hu.2.2, hp.2⟩]
    · rw [if_neg hp, if_neg]
      rintro ⟨a1, a2, a3, a4, a5⟩
      apply hp
      refine ⟨a1, ?_⟩
      have e2 : uniA l (k + 6) = hexA l (k + 8) := by
        unfold uniA
        by_cases h : k + 6 + 6 ≤ l.length
        · rw [if_pos ⟨h, a3, a4⟩]
        · rw [if_neg (fun g => h g.1)]; unfold hexA; rw [if_pos (by omega)]
      rw [e2]; exact a5

theorem isR_hex {v : Int} (h0 : 0 ≤ v) (h1 : v ≤ 65535) : Ut.isR v = decide (v < 55296 ∨ 57343 < v) := by
  unfold Ut.isR; rw [Bool.eq_iff_iff]; simp; omega
theorem putI_byt0 : Ut.Byt (Ut.putI 0) := Ut.putI_byt 0 (by decide)
/-- what a part is: right, or wrong -/
def PcP (k : Nat) (r : List UInt8 × Nat) (w : World) (e : Ending) (w' : World) : Prop := (if r.2 = 0 then ∃ t j, e = tup3 t j false else e = tup3 (mkS r.1) ((k : Int) + (r.2 : Nat)) true) ∧ Below w.heap.size w w'
theorem pcp_no {k : Nat} {r : List UInt8 × Nat} {w : World} {e : Ending} {w' : World} (h : r.2 = 0) (g : (∃ t j, e = tup3 t j false) ∧ Below w.heap.size w w') : PcP k r w e w' := by unfold PcP; rw [if_pos h]; exact g
theorem pcp_yes {k n : Nat} {r : List UInt8 × Nat} {w : World} {e : Ending} {w' : World} (hn : r.2 = n) (h : n ≠ 0) (g : e = tup3 (mkS r.1) ((k : Int) + (n : Nat)) true ∧ Below w.heap.size w w') : PcP k r w e w' := by unfold PcP; rw [hn, if_neg h]; exact g
theorem uni_len {l : List UInt8} {k : Nat} (h : 0 ≤ uniA l k) : k + 6 ≤ l.length := by
  unfold uniA at h
  by_cases g : k + 6 ≤ l.length ∧ at0 l k = 92 ∧ at0 l (k + 1) = 117
  · exact g.1
  · rw [if_neg g] at h; omega
theorem uni_bd (l : List UInt8) (k : Nat) : uniA l k ≤ 65535 := by
  unfold uniA; split
  · exact (hexA_bd _ _).2
  · omega
end Go.Proofs.YtbimncnicioagaaDoor.Jt
namespace Go.Proofs.YtbimncnicioagaaDoor.Jt
open Go.RowKit
set_option linter.unusedSimpArgs false
set_option linter.unusedVariables false

def behL : List UInt8 := [34, 92, 98, 102, 110, 114, 116]
def meaL : List UInt8 := [34, 92, 8, 12, 10, 13, 9]
theorem esc_all : ∀ n : Fin 256, decide (0 ≤ Lib.indexByte behL (UInt8.ofNat n.val)) = (decide (0 ≤ escI (n.val : Int)) && decide ((n.val : Int) ≠ 47)) := by decide +kernel
theorem esc_mea : ∀ n : Fin 256, decide (0 ≤ Lib.indexByte behL (UInt8.ofNat n.val)) = true → decide (Lib.indexByte behL (UInt8.ofNat n.val) < 7) = true ∧ (meaL.drop (Lib.indexByte behL (UInt8.ofNat n.val)).toNat).take 1 = [UInt8.ofNat (escI (n.val : Int)).toNat] := by decide +kernel
theorem esc_idx (c : UInt8) : (∃ i : Nat, i < 7 ∧ Lib.indexByte behL c = (i : Int) ∧ 0 ≤ escI (nb c) ∧ (meaL.drop i).take 1 = [UInt8.ofNat (escI (nb c)).toNat]) ∨ (Lib.indexByte behL c < 0 ∧ (nb c = 47 ∨ escI (nb c) < 0)) := by
  have h1 := esc_all ⟨c.toNat, c.toNat_lt⟩
  have h2 := esc_mea ⟨c.toNat, c.toNat_lt⟩
  have e : UInt8.ofNat c.toNat = c := by simp
  simp only [e] at h1 h2
  have en : ((c.toNat : Nat) : Int) = nb c := rfl
  rw [en] at h1 h2
  by_cases h : 0 ≤ Lib.indexByte behL c
  · left
    obtain ⟨a, b⟩ := h2 (by simpa using h)
    rw [decide_eq_true_eq] at a
    rw [decide_eq_true h] at h1
    have h3 := h1.symm
    rw [Bool.and_eq_true, decide_eq_true_eq, decide_eq_true_eq] at h3
    exact ⟨(Lib.indexByte behL c).toNat, by omega, by omega, h3.1, b⟩
  · right
    rw [decide_eq_false h] at h1
    refine ⟨by omega, ?_⟩
    by_cases h4 : nb c = 47
    · exact .inl h4
    · right
      rw [decide_eq_true (p := nb c ≠ 47) h4, Bool.and_true] at h1
      have := of_decide_eq_false h1.symm
      omega
theorem mea_sub (i : Nat) (x : UInt8) (h : (meaL.drop i).take 1 = [x]) : (ByteArray.mk #[34, 92, 8, 12, 10, 13, 9]).extract i (i + 1) = mkS [x] := mkS_of (by
  rw [Lib.extract_data, show i + 1 - i = 1 by omega]; exact h)
theorem byte_back (c : UInt8) : (nb c).toNat.toUInt8 = c := by unfold nb; simp
theorem t3 {a b : ByteArray} {k j : Int} {x y : Bool} (h1 : a = b) (h2 : k = j) (h3 : x = y) : Ending.returned (.tuple #[.string a, .int .i64 k, .bool x]) = tup3 b j y := by subst h1 h2 h3; rfl
end Go.Proofs.YtbimncnicioagaaDoor.Jt
