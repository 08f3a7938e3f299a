/- Contracts and plain mathematics of some packages' functions, laid together; conditions as each one says. -/
import Derived.Test.YtpgllcdcpdeicaaGreatDoorJtRows
import Derived.Test.YtpgllcdcpdeicaaGreatDoorUtMa
import Derived.Test.YtpgllcdcpdeicaaGreatDoorNuMa
import Derived.StillTailTactics
import Derived.Deep.QuietTactic
import Derived.BigQuiet
import Derived.Deep.RegionHeld3
namespace Go.Proofs.YtpgllcdcpdeicaaGreatDoor.Jt
set_option linter.unusedSimpArgs false
set_option linter.unusedVariables false

/-- bytes as numbers, and back -/
def nl (l : List UInt8) : List Int := l.map nb
def bl (l : List Int) : List UInt8 := l.map fun z => UInt8.ofNat z.toNat
theorem nums_nl (s : ByteArray) : Ut.nums s = nl s.data.toList := rfl
theorem bl_nl (l : List UInt8) : bl (nl l) = l := by
  unfold bl nl
  rw [List.map_map]
  have : ((fun z : Int => UInt8.ofNat z.toNat) ∘ nb) = id := by funext c; simp [nb]
  rw [this, List.map_id]
theorem nl_drop (l : List UInt8) (k : Nat) : nl (l.drop k) = (nl l).drop k := by unfold nl; rw [List.map_drop]
theorem nl_take (l : List UInt8) (k : Nat) : nl (l.take k) = (nl l).take k := by unfold nl; rw [List.map_take]
theorem nl_len (l : List UInt8) : (nl l).length = l.length := by unfold nl; rw [List.length_map]
theorem nl_byt (l : List UInt8) : Ut.Byt (nl l) := by
  intro z hz
  obtain ⟨b, _, rfl⟩ := List.mem_map.1 hz
  exact nb_bd b
/-- the byte at a place, 0 behind the end -/
def at0 (l : List UInt8) (k : Nat) : Int := nb (l.getD k 0)
theorem at0_get {l : List UInt8} {k : Nat} (h : k < l.length) : at0 l k = nb l[k] := by unfold at0; rw [List.getD_eq_getElem?_getD, List.getElem?_eq_getElem h]; rfl
theorem gd_nl (l : List UInt8) (k : Nat) : Ut.gd (nl l) k = at0 l k := by
  unfold Ut.gd at0 nl
  rw [List.getD_eq_getElem?_getD, List.getD_eq_getElem?_getD, List.getElem?_map]
  cases l[k]? <;> rfl

/-- four digits by sixteen at a place; -1: they are none -/
def hexA (l : List UInt8) (k : Nat) : Int :=
  if l.length < k + 4 then -1 else if Nu.rdE 16 2147483647 (cutL l k (k + 4)) = 0 then Nu.rdN 16 2147483647 (cutL l k (k + 4)) else -1
/-- what a sign behind a backslash stands for; -1: nothing -/
def escI (c : Int) : Int := if c = 34 then 34 else if c = 92 then 92 else if c = 47 then 47 else if c = 98 then 8 else if c = 102 then 12 else if c = 110 then 10 else if c = 114 then 13 else if c = 116 then 9 else -1
/-- how many bytes the rune has at a place; 0: there is none -/
def runL (l : List UInt8) (k : Nat) : Nat := (Ut.nextW (nl (l.drop k))).2.toNat
/-- what the backslash at a place, with what belongs to it, stands for, and how many bytes that takes; 0: it is wrong -/
def backL (l : List UInt8) (k : Nat) : List UInt8 × Nat :=
  if l.length ≤ k + 1 then ([], 0)
  else if 0 ≤ escI (at0 l (k + 1)) then ([UInt8.ofNat (escI (at0 l (k + 1))).toNat], 2)
  else if at0 l (k + 1) ≠ 117 ∨ hexA l (k + 2) < 0 then ([], 0)
  else if (55296 ≤ hexA l (k + 2) ∧ hexA l (k + 2) < 56320) ∧ k + 7 < l.length ∧ at0 l (k + 6) = 92 ∧ at0 l (k + 7) = 117 ∧ 56320 ≤ hexA l (k + 8) ∧ hexA l (k + 8) < 57344
    then (bl (Ut.putI (65536 + (hexA l (k + 2) - 55296) * 1024 + hexA l (k + 8) - 56320)), 12)
  else if Ut.isR (hexA l (k + 2)) = true then (bl (Ut.putI (hexA l (k + 2))), 6) else ([], 0)
/-- what stands at a place in quotes: its bytes, how many it takes; 0: it is wrong -/
def unitL (l : List UInt8) (k : Nat) : List UInt8 × Nat :=
  if at0 l k < 32 ∨ at0 l k = 34 then ([], 0)
  else if at0 l k ≠ 92 then (if runL l k = 0 then ([], 0) else (cutL l k (k + runL l k), runL l k))
  else backL l k
/-- what stands in quotes from a place on, and behind the last one; none: it is wrong; f: how many steps at most -/
def textF (l : List UInt8) : Nat → Nat → Option (List UInt8 × Nat)
  | 0, _ => none
  | f + 1, k => if l.length ≤ k then none else if at0 l k = 34 then some ([], k + 1) else if (unitL l k).2 = 0 then none
    else (textF l f (k + (unitL l k).2)).map fun r => ((unitL l k).1 ++ r.1, r.2)
theorem textF_eq (l : List UInt8) : ∀ (f g k : Nat), l.length + 1 ≤ k + f → l.length + 1 ≤ k + g → textF l f k = textF l g k
  | 0, 0, k, _, _ => rfl
  | 0, g + 1, k, h, _ => by
    show none = textF l (g + 1) k
    unfold textF; rw [if_pos (by omega)]
  | f + 1, 0, k, _, h => by
    show textF l (f + 1) k = none
    unfold textF; rw [if_pos (by omega)]
  | f + 1, g + 1, k, h, h' => by
    unfold textF
    by_cases h1 : l.length ≤ k
    · rw [if_pos h1, if_pos h1]
    · rw [if_neg h1, if_neg h1]
      by_cases h3 : (unitL l k).2 = 0
      · rw [if_pos h3, if_pos h3]
      · rw [if_neg h3, if_neg h3, textF_eq l f g _ (by omega) (by omega)]
def textA (l : List UInt8) (k : Nat) : Option (List UInt8 × Nat) := textF l (l.length + 1) k
theorem text_end {l : List UInt8} {k : Nat} (h : l.length ≤ k) : textA l k = none := by unfold textA textF; rw [if_pos h]
theorem text_quote {l : List UInt8} {k : Nat} (h : k < l.length) (hq : at0 l k = 34) : textA l k = some ([], k + 1) := by unfold textA textF; rw [if_neg (by omega), if_pos hq]
theorem text_bad {l : List UInt8} {k : Nat} (hq : at0 l k ≠ 34) (hu : (unitL l k).2 = 0) : textA l k = none := by
  unfold textA textF
  by_cases h : l.length ≤ k
  · rw [if_pos h]
  · rw [if_neg h, if_neg hq, if_pos hu]
theorem text_step {l : List UInt8} {k : Nat} (h : k < l.length) (hq : at0 l k ≠ 34) (hu : (unitL l k).2 ≠ 0) : textA l k = (textA l (k + (unitL l k).2)).map fun r => ((unitL l k).1 ++ r.1, r.2) := by
  conv => lhs; unfold textA textF
  rw [if_neg (by omega), if_neg hq, if_neg hu, textF_eq l l.length (l.length + 1) _ (by omega) (by omega)]
  rfl

/-- the kind of a sign; 0: it is none -/
def sgnI (c : Int) : Nat := if c = 123 then 1 else if c = 125 then 2 else if c = 91 then 3 else if c = 93 then 4 else if c = 58 then 5 else if c = 44 then 6 else 0
def trueL : List UInt8 := [116, 114, 117, 101]
def falseL : List UInt8 := [102, 97, 108, 115, 101]
def nullL : List UInt8 := [110, 117, 108, 108]
/-- the kind of a word; 0: it is none -/
def wrdK (l : List UInt8) : Nat := if l = trueL then 9 else if l = falseL then 10 else if l = nullL then 11 else 0
structure Tok where
  k : Nat
  a : Nat
  b : Nat
  t : List UInt8
  n : Int
def zT : Tok := ⟨0, 0, 0, [], 0⟩
/-- the token that begins at a place, and what is amiss -/
def tokP (l : List UInt8) (p : Nat) : Tok × Int :=
  if sgnI (at0 l p) ≠ 0 then (⟨sgnI (at0 l p), p, p + 1, [], 0⟩, 0)
  else if at0 l p = 34 then (match textA l (p + 1) with | none => (zT, 3) | some r => (⟨7, p, r.2, r.1, 0⟩, 0))
  else if at0 l p = 45 ∨ Ch.digB (at0 l p) = true then
    (if Nu.pE (cutL l p (endP numB l p)) = 0 then (⟨8, p, endP numB l p, [], Nu.pN (cutL l p (endP numB l p))⟩, 0) else (zT, Nu.pE (cutL l p (endP numB l p))))
  else if wrdK (cutL l p (endP wordB l p)) = 0 then (zT, 3)
  else (⟨wrdK (cutL l p (endP wordB l p)), p, endP wordB l p, [], 0⟩, 0)
/-- the token behind the blanks at a place that there is, and what is amiss -/
def tokA (l : List UInt8) (k : Nat) : Tok × Int := if l.length ≤ endP blkB l k then (zT, 6) else tokP l (endP blkB l k)
/-- all tokens from a place on, where it went wrong, and how; f: how many steps at most -/
def allF (l : List UInt8) : Nat → Nat → List Tok × Nat × Int
  | 0, _ => ([], l.length, 0)
  | f + 1, k => if (tokA l k).2 = 6 then ([], l.length, 0) else if (tokA l k).2 ≠ 0 then ([], endP blkB l k, (tokA l k).2)
    else ((tokA l k).1 :: (allF l f (tokA l k).1.b).1, (allF l f (tokA l k).1.b).2)
end Go.Proofs.YtpgllcdcpdeicaaGreatDoor.Jt
namespace Go.Proofs.YtpgllcdcpdeicaaGreatDoor.Jt
set_option linter.unusedSimpArgs false
set_option linter.unusedVariables false

theorem run_zs {zs : List Int} (h : zs ≠ []) : (Ut.nextW zs).2.toNat = if Ut.szI (Ut.gd zs 0) ≤ zs.length ∧ Ut.okTo zs (Ut.szI (Ut.gd zs 0)) then Ut.szI (Ut.gd zs 0) else 0 := by
  unfold Ut.nextW Ut.nextR
  rw [if_neg h]
  by_cases h0 : Ut.szI (Ut.gd zs 0) = 0
  · rw [if_pos h0, h0]; simp
  · rw [if_neg h0]
    by_cases hl : zs.length < Ut.szI (Ut.gd zs 0)
    · rw [if_neg (show ¬ (Ut.szI (Ut.gd zs 0) ≤ zs.length ∧ _) from fun h => by omega)]
      split
      · rfl
      · rfl
    · rw [show min zs.length (Ut.szI (Ut.gd zs 0)) = Ut.szI (Ut.gd zs 0) by omega]
      by_cases ho : Ut.okTo zs (Ut.szI (Ut.gd zs 0))
      · rw [if_pos ho, if_neg hl, if_pos ⟨by omega, ho⟩]; simp
      · rw [if_neg ho, if_neg (fun h => ho h.2)]; rfl
theorem next_pos (zs : List Int) : 0 < (Ut.nextW zs).2 ↔ (Ut.nextW zs).2.toNat ≠ 0 := by omega
theorem okAt_hi {zs : List Int} {j : Nat} (h : Ut.okAt zs j) : 128 ≤ Ut.gd zs j := by
  unfold Ut.okAt at h
  by_cases e : j = 1
  · subst e
    rw [if_pos rfl] at h
    have : 128 ≤ Ut.lo2 (Ut.gd zs 0) := by unfold Ut.lo2; split <;> (try split) <;> omega
    omega
  · rw [if_neg e] at h; exact h.1
theorem okAt_cong {zs ys : List Int} {j : Nat} (h0 : Ut.gd zs 0 = Ut.gd ys 0) (hj : Ut.gd zs j = Ut.gd ys j) : Ut.okAt zs j ↔ Ut.okAt ys j := by
  unfold Ut.okAt
  by_cases e : j = 1
  · subst e; rw [if_pos rfl, if_pos rfl, h0, hj]
  · rw [if_neg e, if_neg e, hj]
theorem at0_drop (l : List UInt8) (a j : Nat) : at0 (l.drop a) j = at0 l (a + j) := by
  unfold at0; rw [List.getD_eq_getElem?_getD, List.getD_eq_getElem?_getD, List.getElem?_drop]
theorem at0_cut {l : List UInt8} {a b j : Nat} (hb : b ≤ l.length) (h : a + j < b) : at0 (cutL l a b) j = at0 l (a + j) := by
  unfold at0 cutL
  rw [List.getD_eq_getElem?_getD, List.getD_eq_getElem?_getD, List.getElem?_take_of_lt (by omega), List.getElem?_drop]
theorem cut_drop {l : List UInt8} {a b k : Nat} : (cutL l a b).drop k = cutL l (a + k) b := by
  unfold cutL; rw [List.drop_take, List.drop_drop, show b - a - k = b - (a + k) by omega]
theorem cut_app {l : List UInt8} {a b c : Nat} (h1 : a ≤ b) (h2 : b ≤ c) : cutL l a b ++ cutL l b c = cutL l a c := by
  unfold cutL
  rw [show c - a = (b - a) + (c - b) by omega, List.take_add, List.drop_drop, show a + (b - a) = b by omega]
theorem cut_nil (l : List UInt8) (a : Nat) : cutL l a a = [] := by unfold cutL; simp
theorem hi_pln {c : UInt8} (h : 128 ≤ nb c) : plnB c = true := by unfold plnB; rw [decide_eq_true_eq]; omega
theorem run_row {l : List UInt8} {a p : Nat} (ha : a ≤ p) (hp : p < endP plnB l a) (hl : a ≤ l.length) : (Ut.nextW (nl (cutL l p (endP plnB l a)))).2.toNat = runL l p := by
  have he := endP_le (p := plnB) hl
  have hz : nl (cutL l p (endP plnB l a)) ≠ [] := fun e => by have := congrArg List.length e; rw [nl_len, cutL_len he, List.length_nil] at this; omega
  have hy : nl (l.drop p) ≠ [] := fun e => by have := congrArg List.length e; rw [nl_len, List.length_drop, List.length_nil] at this; omega
  unfold runL
  rw [run_zs hz, run_zs hy, nl_len, nl_len, cutL_len he, List.length_drop]
  have hg : ∀ j, p + j < endP plnB l a → Ut.gd (nl (cutL l p (endP plnB l a))) j = Ut.gd (nl (l.drop p)) j := fun j hj => by
    rw [gd_nl, gd_nl, at0_cut he hj, at0_drop]
  have h0 := hg 0 (by omega)
  rw [h0]
  have key : (Ut.szI (Ut.gd (nl (l.drop p)) 0) ≤ endP plnB l a - p ∧ Ut.okTo (nl (cutL l p (endP plnB l a))) (Ut.szI (Ut.gd (nl (l.drop p)) 0))) ↔ (Ut.szI (Ut.gd (nl (l.drop p)) 0) ≤ l.length - p ∧ Ut.okTo (nl (l.drop p)) (Ut.szI (Ut.gd (nl (l.drop p)) 0))) := by
    constructor
    · rintro ⟨h1, h2⟩
      exact ⟨by omega, fun j hj h1' => (okAt_cong h0 (hg j (by omega))).1 (h2 j hj h1')⟩
    · rintro ⟨h1, h2⟩
      rcases Nat.lt_or_ge (endP plnB l a - p) (Ut.szI (Ut.gd (nl (l.drop p)) 0)) with h | h
      · have h3 := okAt_hi (h2 (endP plnB l a - p) h (by omega))
        have hlt : endP plnB l a < l.length := by omega
        rw [gd_nl, at0_drop, show p + (endP plnB l a - p) = endP plnB l a by omega, at0_get hlt] at h3
        have h4 := endP_stop hlt
        rw [hi_pln h3] at h4
        cases h4
      · exact ⟨h, fun j hj h1' => (okAt_cong h0 (hg j (by omega))).2 (h2 j hj h1')⟩
  by_cases hc : (Ut.szI (Ut.gd (nl (l.drop p)) 0) ≤ l.length - p ∧ Ut.okTo (nl (l.drop p)) (Ut.szI (Ut.gd (nl (l.drop p)) 0)))
  · rw [if_pos hc, if_pos (key.2 hc)]
  · rw [if_neg hc, if_neg (fun h => hc (key.1 h))]
theorem pln_at {l : List UInt8} {k : Nat} (h : k < l.length) (hp : plnB l[k] = true) : ¬ (at0 l k < 32 ∨ at0 l k = 34) ∧ at0 l k ≠ 34 ∧ ¬ at0 l k = 92 := by
  rw [at0_get h]
  unfold plnB at hp
  rw [decide_eq_true_eq] at hp
  omega
theorem unit_pln {l : List UInt8} {k : Nat} (h : k < l.length) (hp : plnB l[k] = true) : unitL l k = if runL l k = 0 then ([], 0) else (cutL l k (k + runL l k), runL l k) := by
  obtain ⟨h1, _, h2⟩ := pln_at h hp
  unfold unitL; rw [if_neg h1, if_pos h2]
theorem map_app {r : Option (List UInt8 × Nat)} (a b : List UInt8) : (r.map fun r => (b ++ r.1, r.2)).map (fun r => (a ++ r.1, r.2)) = r.map fun r => ((a ++ b) ++ r.1, r.2) := by
  cases r <;> simp
/-- the walk over a row of plain bytes, and what is read of it -/
theorem row_walk {l : List UInt8} {a : Nat} (hl : a ≤ l.length) : ∀ (f n p : Nat), a ≤ p → p ≤ endP plnB l a → endP plnB l a ≤ p + f →
    ((Ut.walkP (nl (cutL l a (endP plnB l a))) f n (p - a)).2 = endP plnB l a - a → textA l p = (textA l (endP plnB l a)).map fun r => (cutL l p (endP plnB l a) ++ r.1, r.2)) ∧
    ((Ut.walkP (nl (cutL l a (endP plnB l a))) f n (p - a)).2 ≠ endP plnB l a - a → textA l p = none) := by
  have he := endP_le (p := plnB) hl
  have hlen : (nl (cutL l a (endP plnB l a))).length = endP plnB l a - a := by rw [nl_len, cutL_len he]
  have hdr : ∀ p, a ≤ p → (nl (cutL l a (endP plnB l a))).drop (p - a) = nl (cutL l p (endP plnB l a)) := fun p hp => by
    rw [← nl_drop, cut_drop, show a + (p - a) = p by omega]
  intro f
  induction f with
  | zero =>
    intro n p ha hp hf
    obtain rfl : p = endP plnB l a := by omega
    refine ⟨fun _ => ?_, fun h => absurd rfl h⟩
    rw [cut_nil]
    cases textA l (endP plnB l a) <;> simp
  | succ f ih =>
    intro n p ha hp hf
    by_cases hpe : p = endP plnB l a
    · rw [Ut.walkP_stop (fun h => by rw [hlen] at h; omega)]
      refine ⟨fun _ => ?_, fun h => absurd (by show p - a = _; omega) h⟩
      rw [hpe, cut_nil]
      cases textA l (endP plnB l a) <;> simp
    · have hplt : p < endP plnB l a := by omega
      have hpl : p < l.length := by omega
      have hpp : plnB l[p] = true := (endP_all ha hplt).2
      have hr := run_row ha hplt hl
      have hu := unit_pln hpl hpp
      have hq := (pln_at hpl hpp).2.1
      by_cases hk : runL l p = 0
      · rw [Ut.walkP_stop (fun h => by rw [hdr p ha, next_pos, hr] at h; exact h.2 hk)]
        refine ⟨fun h => absurd h (by show ¬ (p - a = _); omega), fun _ => text_bad hq (by rw [hu, if_pos hk])⟩
      · have hkl : runL l p ≤ endP plnB l a - p := by
          have := (Ut.nextW_k (nl (cutL l p (endP plnB l a)))).1
          rw [nl_len, cutL_len he] at this
          omega
        have hstep : textA l p = (textA l (p + runL l p)).map fun r => (cutL l p (p + runL l p) ++ r.1, r.2) := by
          have := text_step hpl hq (by rw [hu, if_neg hk]; exact hk)
          rw [hu, if_neg hk] at this
          exact this
        have hw : Ut.walkP (nl (cutL l a (endP plnB l a))) (f + 1) n (p - a) = Ut.walkP (nl (cutL l a (endP plnB l a))) f (n + 1) (p + runL l p - a) := by
          conv => lhs; unfold Ut.walkP
          rw [if_pos ⟨by rw [hlen]; omega, by rw [hdr p ha, next_pos, hr]; exact hk⟩, hdr p ha, hr, show p - a + runL l p = p + runL l p - a by omega]
        obtain ⟨i1, i2⟩ := ih (n + 1) (p + runL l p) (by omega) (by omega) (by omega)
        rw [hw]
        refine ⟨fun h => ?_, fun h => ?_⟩
        · rw [hstep, i1 h, map_app, cut_app (by omega) (by omega)]
        · rw [hstep, i2 h]; rfl
/-- is a text runes' bytes? -/
def vldB (l : List UInt8) : Bool := decide ((Ut.walkL (nl l)).2 = l.length)
theorem text_row {l : List UInt8} {a : Nat} (hl : a ≤ l.length) : textA l a = if vldB (cutL l a (endP plnB l a)) = true then (textA l (endP plnB l a)).map fun r => (cutL l a (endP plnB l a) ++ r.1, r.2) else none := by
  have he := endP_le (p := plnB) hl
  have h := row_walk hl (nl (cutL l a (endP plnB l a))).length 0 a (Nat.le_refl _) (endP_ge _ _ _) (by rw [nl_len, cutL_len he]; omega)
  rw [Nat.sub_self] at h
  unfold vldB Ut.walkL
  rw [cutL_len he]
  by_cases hc : (Ut.walkP (nl (cutL l a (endP plnB l a))) (nl (cutL l a (endP plnB l a))).length 0 0).2 = endP plnB l a - a
  · rw [if_pos (decide_eq_true hc)]; exact h.1 hc
  · rw [if_neg (by simpa using hc)]; exact h.2 hc
/-- what the part of a text in quotes stands for that begins at a place, and how many bytes that takes; 0: it is wrong -/
def pieceL (l : List UInt8) (k : Nat) : List UInt8 × Nat :=
  if at0 l k = 92 then backL l k
  else if k < endP plnB l k ∧ vldB (cutL l k (endP plnB l k)) = true then (cutL l k (endP plnB l k), endP plnB l k - k) else ([], 0)
theorem piece_bad {l : List UInt8} {k : Nat} (h : k < l.length) (hq : at0 l k ≠ 34) (hu : (pieceL l k).2 = 0) : textA l k = none := by
  unfold pieceL at hu
  by_cases hb : at0 l k = 92
  · rw [if_pos hb] at hu
    exact text_bad hq (by unfold unitL; rw [if_neg (by omega), if_neg (by omega)]; exact hu)
  · rw [if_neg hb] at hu
    by_cases hc : k < endP plnB l k ∧ vldB (cutL l k (endP plnB l k)) = true
    · rw [if_pos hc] at hu; exact absurd hu (by show ¬ (endP plnB l k - k = 0); omega)
    · by_cases hlt : k < endP plnB l k
      · rw [text_row (by omega), if_neg (fun g => hc ⟨hlt, g⟩)]
      · have hn : plnB l[k] = false := by
          have e : endP plnB l k = k := by have := endP_ge plnB l k; omega
          have := endP_stop (p := plnB) (l := l) (k := k) (by omega)
          simpa only [e] using this
        refine text_bad hq ?_
        unfold plnB at hn
        rw [decide_eq_false_iff_not] at hn
        rw [at0_get h] at hb hq
        unfold unitL
        rw [at0_get h, if_pos (by omega)]
theorem piece_step {l : List UInt8} {k : Nat} (h : k < l.length) (hq : at0 l k ≠ 34) (hu : (pieceL l k).2 ≠ 0) : textA l k = (textA l (k + (pieceL l k).2)).map fun r => ((pieceL l k).1 ++ r.1, r.2) := by
  by_cases hb : at0 l k = 92
  · have e : pieceL l k = unitL l k := by unfold pieceL unitL; rw [if_pos hb, if_neg (by omega), if_neg (by omega)]
    rw [e] at hu ⊢
    exact text_step h hq hu
  · by_cases hc : k < endP plnB l k ∧ vldB (cutL l k (endP plnB l k)) = true
    · have e : pieceL l k = (cutL l k (endP plnB l k), endP plnB l k - k) := by unfold pieceL; rw [if_neg hb, if_pos hc]
      rw [e]
      show textA l k = (textA l (k + (endP plnB l k - k))).map _
      rw [show k + (endP plnB l k - k) = endP plnB l k by omega, text_row (by omega), if_pos hc.2]
    · exact absurd (by unfold pieceL; rw [if_neg hb, if_neg hc]) hu
end Go.Proofs.YtpgllcdcpdeicaaGreatDoor.Jt
namespace Go.Proofs.YtpgllcdcpdeicaaGreatDoor.Jt
open Go.RowKit
set_option linter.unusedSimpArgs false
set_option linter.unusedVariables false

theorem ret_bool {a b : Bool} (h : a = b) : Ending.returned (.bool a) = .returned (.bool b) := by rw [h]
theorem ret_int {k : IntKind} {a b : Int} (h : a = b) : Ending.returned (.int k a) = .returned (.int k b) := by rw [h]
def blkI (c : Int) : Bool := decide (c = 32 ∨ c = 9 ∨ c = 10 ∨ c = 13)
theorem blank_c (c : Int) (w : World) : Calls Tryz.prog 57 #[.int .u8 c] w fun e w' => e = .returned (.bool (blkI c)) ∧ w = w' := by
  have HS := Lib.hid (fun W => Ch.spa_c c W)
  by_cases h1 : c = 32 ∨ c = 9
  · have e1 : Ch.spaB c = true := by unfold Ch.spaB; simpa using h1
    have HB : Hid (blkI c = true) := by show blkI c = true; unfold blkI; rw [decide_eq_true_eq]; omega
    rw [e1] at HS
    clear e1 h1
    go_enter Tryz.func57, Tryz.ntmps57
    go_wp2_with (go_at_call 68; refine (HS.out _).mono ?_; rintro e w' ⟨rfl, rfl⟩)
    go_ret
    exact ⟨ret_bool HB.out.symm, rfl⟩
  · have e1 : Ch.spaB c = false := by unfold Ch.spaB; simpa using h1
    rw [e1] at HS
    by_cases h2 : c = 10
    · have HB : Hid (blkI c = true) := by show blkI c = true; unfold blkI; rw [decide_eq_true_eq]; omega
      have q : (c == 10) = true := by simpa using h2
      clear e1 h1 h2
      go_enter Tryz.func57, Tryz.ntmps57
      go_wp2_with (go_at_call 68; refine (HS.out _).mono ?_; rintro e w' ⟨rfl, rfl⟩)
      go_ret
      exact ⟨ret_bool HB.out.symm, rfl⟩
    · have q : (c == 10) = false := by simpa using h2
      by_cases h3 : c = 13
      · have HB : Hid (blkI c = true) := by show blkI c = true; unfold blkI; rw [decide_eq_true_eq]; omega
        have q3 : (c == 13) = true := by simpa using h3
        clear e1 h1 h2 h3
        go_enter Tryz.func57, Tryz.ntmps57
        go_wp2_with (go_at_call 68; refine (HS.out _).mono ?_; rintro e w' ⟨rfl, rfl⟩)
        go_ret
        exact ⟨ret_bool HB.out.symm, rfl⟩
      · have q3 : (c == 13) = false := by simpa using h3
        have HB : Hid (blkI c = false) := by show blkI c = false; unfold blkI; rw [decide_eq_false_iff_not]; omega
        clear e1 h1 h2 h3
        go_enter Tryz.func57, Tryz.ntmps57
        go_wp2_with (go_at_call 68; refine (HS.out _).mono ?_; rintro e w' ⟨rfl, rfl⟩)
        go_ret
        exact ⟨ret_bool HB.out.symm, rfl⟩
def wordI (c : Int) : Bool := Ch.letB c || Ch.digB c
theorem inword_c (c : Int) (w : World) : Calls Tryz.prog 76 #[.int .u8 c] w fun e w' => e = .returned (.bool (wordI c)) ∧ w = w' := by
  have HL := Lib.hid (fun W => Ch.let_c c W)
  have HD := Lib.hid (fun W => Ch.dig_c c W)
  have HW : Hid (wordI c = (Ch.letB c || Ch.digB c)) := rfl
  revert HL HD HW
  generalize Ch.digB c = d
  generalize Ch.letB c = l
  intro HL HD HW
  cases l with
  | true =>
    go_enter Tryz.func76, Tryz.ntmps76
    go_wp2_with (first | (go_at_call 61; refine (HL.out _).mono ?_; rintro e w' ⟨rfl, rfl⟩) | (go_at_call 59; refine (HD.out _).mono ?_; rintro e w' ⟨rfl, rfl⟩))
    go_ret
    exact ⟨ret_bool (by rw [HW.out]; rfl), rfl⟩
  | false =>
    go_enter Tryz.func76, Tryz.ntmps76
    go_wp2_with (first | (go_at_call 61; refine (HL.out _).mono ?_; rintro e w' ⟨rfl, rfl⟩) | (go_at_call 59; refine (HD.out _).mono ?_; rintro e w' ⟨rfl, rfl⟩))
    go_ret
    exact ⟨ret_bool (by rw [HW.out]; rfl), rfl⟩
def sgnB (c : Int) : Bool := decide (c = 43 ∨ c = 45 ∨ c = 46)
def numI (c : Int) : Bool := wordI c || sgnB c
theorem innum_c (c : Int) (w : World) : Calls Tryz.prog 73 #[.int .u8 c] w fun e w' => e = .returned (.bool (numI c)) ∧ w = w' := by
  have HL := Lib.hid (fun W => inword_c c W)
  have HW : Hid (numI c = (wordI c || sgnB c)) := rfl
  revert HL HW
  generalize wordI c = l
  intro HL HW
  cases l with
  | true =>
    go_enter Tryz.func73, Tryz.ntmps73
    go_wp2_with (go_at_call 76; refine (HL.out _).mono ?_; rintro e w' ⟨rfl, rfl⟩)
    go_ret
    exact ⟨ret_bool (by rw [HW.out]; rfl), rfl⟩
  | false =>
    by_cases h1 : c = 43
    · have q : (c == 43) = true := by simpa using h1
      have HS : Hid (sgnB c = true) := by show sgnB c = true; unfold sgnB; rw [decide_eq_true_eq]; omega
      clear h1
      go_enter Tryz.func73, Tryz.ntmps73
      go_wp2_with (go_at_call 76; refine (HL.out _).mono ?_; rintro e w' ⟨rfl, rfl⟩)
      go_ret
      exact ⟨ret_bool (by rw [HW.out, HS.out]; rfl), rfl⟩
    · have q : (c == 43) = false := by simpa using h1
      by_cases h2 : c = 45
      · have q2 : (c == 45) = true := by simpa using h2
        have HS : Hid (sgnB c = true) := by show sgnB c = true; unfold sgnB; rw [decide_eq_true_eq]; omega
        clear h1 h2
        go_enter Tryz.func73, Tryz.ntmps73
        go_wp2_with (go_at_call 76; refine (HL.out _).mono ?_; rintro e w' ⟨rfl, rfl⟩)
        go_ret
        exact ⟨ret_bool (by rw [HW.out, HS.out]; rfl), rfl⟩
      · have q2 : (c == 45) = false := by simpa using h2
        have HS : Hid (sgnB c = (c == 46)) := by
          show sgnB c = (c == 46)
          unfold sgnB; rw [Bool.eq_iff_iff]; simp; omega
        clear h1 h2
        go_enter Tryz.func73, Tryz.ntmps73
        go_wp2_with (go_at_call 76; refine (HL.out _).mono ?_; rintro e w' ⟨rfl, rfl⟩)
        go_ret
        exact ⟨ret_bool (by rw [HW.out, HS.out]; rfl), rfl⟩
def plnI (c : Int) : Bool := decide (32 ≤ c ∧ c ≠ 34 ∧ c ≠ 92)
theorem inpln_c (c : Int) (w : World) : Calls Tryz.prog 79 #[.int .u8 c] w fun e w' => e = .returned (.bool (plnI c)) ∧ w = w' := by
  by_cases h1 : 32 ≤ c
  · by_cases h2 : c = 34
    · have q : (c != 34) = false := by simpa using h2
      have HS : Hid (plnI c = false) := by show plnI c = false; unfold plnI; rw [decide_eq_false_iff_not]; omega
      clear h2
      go_enter Tryz.func79, Tryz.ntmps79
      go_wp2
      go_ret
      exact ⟨ret_bool HS.out.symm, rfl⟩
    · have q : (c != 34) = true := by simpa using h2
      have HS : Hid (plnI c = (c != 92)) := by
        show plnI c = (c != 92)
        unfold plnI; rw [Bool.eq_iff_iff]; simp; omega
      clear h2
      go_enter Tryz.func79, Tryz.ntmps79
      go_wp2
      go_ret
      exact ⟨ret_bool HS.out.symm, rfl⟩
  · have h1' : ¬ (32 : Int) ≤ c := h1
    have HS : Hid (plnI c = false) := by show plnI c = false; unfold plnI; rw [decide_eq_false_iff_not]; omega
    go_enter Tryz.func79, Tryz.ntmps79
    go_wp2
    go_ret
    exact ⟨ret_bool HS.out.symm, rfl⟩
theorem data_at {s : ByteArray} {k : Nat} (h : k < s.size) (h' : k < s.data.toList.length) : s.data.toList[k] = s[k] := Nu.gdat s k h
theorem size_l (s : ByteArray) : s.size = s.data.toList.length := Lib.size_eq s
set_option maxRecDepth 100000 in
set_option maxHeartbeats 2000000 in
theorem rownum_c (s : ByteArray) (a : Nat) (w : World) (hs : s.size ≤ 1000) (ha : a ≤ s.size) : Calls Tryz.prog 72 #[.string s, .int .i64 (a : Int), .func (.func 73) #[] #[]] w fun e w' => e = .returned (.int .i64 (endP numB s.data.toList a : Nat)) ∧ w = w' := by
  have hsl := Lib.hid (size_l s)
  go_enter Tryz.func72, Tryz.ntmps72
  go_wp2
  go_loop [1] (fun i => ∃ k : Nat, k ≤ s.size ∧ i = .int .i64 k ∧ endP numB s.data.toList k = endP numB s.data.toList a) (fun i => s.size - (intOf i).toNat)
  case atStart => exact ⟨a, ha, rfl, rfl⟩
  case round =>
    obtain ⟨k, hk, rfl, hal⟩ := hrel
    have HA := Lib.hid hal
    clear hal
    by_cases hlt : k < s.size
    · have hl : k < s.data.toList.length := by rw [← hsl.out]; exact hlt
      have HY := Lib.hid (@endP_yes numB s.data.toList k hl)
      have HN := Lib.hid (@endP_no numB s.data.toList k hl)
      have he : numB s.data.toList[k] = numI (s[k].toNat : Int) := by rw [data_at hlt hl]; rfl
      rw [he] at HY HN
      have HC := Lib.hid (fun W => innum_c (s[k].toNat : Int) W)
      clear he
      cases hb : numI (s[k].toNat : Int) with
      | true =>
        rw [hb] at HC HY HN
        have HZ := Lib.hid (HY.out rfl)
        clear hb HY HN
        go_wp2_with (go_at_call 73; refine (HC.out _).mono ?_; rintro e w' ⟨rfl, rfl⟩)
        go_round
        case rel => exact ⟨k + 1, by omega, by go_num, by rw [HZ.out]; exact HA.out⟩
        case measure => simp [intOf]; omega
      | false =>
        rw [hb] at HC HY HN
        have HZ := Lib.hid (HN.out rfl)
        clear hb HY HN
        go_wp2_with (go_at_call 73; refine (HC.out _).mono ?_; rintro e w' ⟨rfl, rfl⟩)
        go_ret
        exact ⟨ret_int (by rw [← HA.out, HZ.out]), rfl⟩
    · have HE : Hid (endP numB s.data.toList k = k) := endP_end (by rw [← hsl.out]; omega)
      go_wp2
      go_ret
      exact ⟨ret_int (by rw [← HA.out, HE.out]), rfl⟩
set_option maxRecDepth 100000 in
set_option maxHeartbeats 2000000 in
theorem rowword_c (s : ByteArray) (a : Nat) (w : World) (hs : s.size ≤ 1000) (ha : a ≤ s.size) : Calls Tryz.prog 72 #[.string s, .int .i64 (a : Int), .func (.func 76) #[] #[]] w fun e w' => e = .returned (.int .i64 (endP wordB s.data.toList a : Nat)) ∧ w = w' := by
  have hsl := Lib.hid (size_l s)
  go_enter Tryz.func72, Tryz.ntmps72
  go_wp2
  go_loop [1] (fun i => ∃ k : Nat, k ≤ s.size ∧ i = .int .i64 k ∧ endP wordB s.data.toList k = endP wordB s.data.toList a) (fun i => s.size - (intOf i).toNat)
  case atStart => exact ⟨a, ha, rfl, rfl⟩
  case round =>
    obtain ⟨k, hk, rfl, hal⟩ := hrel
    have HA := Lib.hid hal
    clear hal
    by_cases hlt : k < s.size
    · have hl : k < s.data.toList.length := by rw [← hsl.out]; exact hlt
      have HY := Lib.hid (@endP_yes wordB s.data.toList k hl)
      have HN := Lib.hid (@endP_no wordB s.data.toList k hl)
      have he : wordB s.data.toList[k] = wordI (s[k].toNat : Int) := by rw [data_at hlt hl]; rfl
      rw [he] at HY HN
      have HC := Lib.hid (fun W => inword_c (s[k].toNat : Int) W)
      clear he
      cases hb : wordI (s[k].toNat : Int) with
      | true =>
        rw [hb] at HC HY HN
        have HZ := Lib.hid (HY.out rfl)
        clear hb HY HN
        go_wp2_with (go_at_call 76; refine (HC.out _).mono ?_; rintro e w' ⟨rfl, rfl⟩)
        go_round
        case rel => exact ⟨k + 1, by omega, by go_num, by rw [HZ.out]; exact HA.out⟩
        case measure => simp [intOf]; omega
      | false =>
        rw [hb] at HC HY HN
        have HZ := Lib.hid (HN.out rfl)
        clear hb HY HN
        go_wp2_with (go_at_call 76; refine (HC.out _).mono ?_; rintro e w' ⟨rfl, rfl⟩)
        go_ret
        exact ⟨ret_int (by rw [← HA.out, HZ.out]), rfl⟩
    · have HE : Hid (endP wordB s.data.toList k = k) := endP_end (by rw [← hsl.out]; omega)
      go_wp2
      go_ret
      exact ⟨ret_int (by rw [← HA.out, HE.out]), rfl⟩
set_option maxRecDepth 100000 in
set_option maxHeartbeats 2000000 in
theorem rowpln_c (s : ByteArray) (a : Nat) (w : World) (hs : s.size ≤ 1000) (ha : a ≤ s.size) : Calls Tryz.prog 72 #[.string s, .int .i64 (a : Int), .func (.func 79) #[] #[]] w fun e w' => e = .returned (.int .i64 (endP plnB s.data.toList a : Nat)) ∧ w = w' := by
  have hsl := Lib.hid (size_l s)
  go_enter Tryz.func72, Tryz.ntmps72
  go_wp2
  go_loop [1] (fun i => ∃ k : Nat, k ≤ s.size ∧ i = .int .i64 k ∧ endP plnB s.data.toList k = endP plnB s.data.toList a) (fun i => s.size - (intOf i).toNat)
  case atStart => exact ⟨a, ha, rfl, rfl⟩
  case round =>
    obtain ⟨k, hk, rfl, hal⟩ := hrel
    have HA := Lib.hid hal
    clear hal
    by_cases hlt : k < s.size
    · have hl : k < s.data.toList.length := by rw [← hsl.out]; exact hlt
      have HY := Lib.hid (@endP_yes plnB s.data.toList k hl)
      have HN := Lib.hid (@endP_no plnB s.data.toList k hl)
      have he : plnB s.data.toList[k] = plnI (s[k].toNat : Int) := by rw [data_at hlt hl]; rfl
      rw [he] at HY HN
      have HC := Lib.hid (fun W => inpln_c (s[k].toNat : Int) W)
      clear he
      cases hb : plnI (s[k].toNat : Int) with
      | true =>
        rw [hb] at HC HY HN
        have HZ := Lib.hid (HY.out rfl)
        clear hb HY HN
        go_wp2_with (go_at_call 79; refine (HC.out _).mono ?_; rintro e w' ⟨rfl, rfl⟩)
        go_round
        case rel => exact ⟨k + 1, by omega, by go_num, by rw [HZ.out]; exact HA.out⟩
        case measure => simp [intOf]; omega
      | false =>
        rw [hb] at HC HY HN
        have HZ := Lib.hid (HN.out rfl)
        clear hb HY HN
        go_wp2_with (go_at_call 79; refine (HC.out _).mono ?_; rintro e w' ⟨rfl, rfl⟩)
        go_ret
        exact ⟨ret_int (by rw [← HA.out, HZ.out]), rfl⟩
    · have HE : Hid (endP plnB s.data.toList k = k) := endP_end (by rw [← hsl.out]; omega)
      go_wp2
      go_ret
      exact ⟨ret_int (by rw [← HA.out, HE.out]), rfl⟩
end Go.Proofs.YtpgllcdcpdeicaaGreatDoor.Jt
namespace Go.Proofs.YtpgllcdcpdeicaaGreatDoor.Jt
open Go.RowKit
set_option linter.unusedSimpArgs false
set_option linter.unusedVariables false

/-- a token as the program has it; what is amiss -/
def tokV (k a b : Int) (t : ByteArray) (n : Int) : Value := .agg #[.int .i64 k, .int .i64 a, .int .i64 b, .string t, .int .i64 n]
def emS : ByteArray := ⟨#[]⟩
def fltV (a e : Int) : Value := .iface 124 (.agg #[.int .i64 a, .int .i64 e])
def tupV (x y : Value) : Ending := .returned (.tuple #[x, y])
theorem byte_q (s : ByteArray) (k : Nat) (h : k < s.size) (z : Int) : ((s[k].toNat : Int) == z) = decide (at0 s.data.toList k = z) := by
  have h' : k < s.data.toList.length := by rw [← size_l]; exact h
  rw [at0_get h', data_at h h']
  rw [Bool.eq_iff_iff, beq_iff_eq, decide_eq_true_eq]; rfl
theorem byte_i (s : ByteArray) (k : Nat) (h : k < s.size) : (s[k].toNat : Int) = at0 s.data.toList k := by
  have h' : k < s.data.toList.length := by rw [← size_l]; exact h
  rw [at0_get h', data_at h h']
  rfl
set_option maxRecDepth 100000 in
set_option maxHeartbeats 2000000 in
theorem sign_1 (s : ByteArray) (p : Nat) (w : World) (hs : s.size ≤ 1000) (hp : p < s.size) (hc : at0 s.data.toList p = 123) : Calls Tryz.prog 63 #[.string s, .int .i64 (p : Int)] w fun e w' => e = tupV (tokV 1 p ((p : Int) + 1) emS 0) .nilIface ∧ Below w.heap.size w w' := by
  have q123 : ((s[p].toNat : Int) == 123) = true := by rw [byte_q s p hp, hc]; rfl
  clear hc
  go_enter Tryz.func63, Tryz.ntmps63
  go_wp2
  refine bodyPost_ret (v := .tuple #[tokV 1 p ((p : Int) + 1) emS 0, .nilIface]) (by simp [results, Tryz.results63, go_sem, tokV, emS]) rfl ⟨rfl, ?_⟩
  (repeat (first | exact Below.refl _ _ | refine Below.alloc ?_ (by first | (simp; done) | (simp; omega)) _ | refine Below.setCell ?_ (by first | (simp; done) | (simp; omega)) _))
set_option maxRecDepth 100000 in
set_option maxHeartbeats 2000000 in
theorem sign_2 (s : ByteArray) (p : Nat) (w : World) (hs : s.size ≤ 1000) (hp : p < s.size) (hc : at0 s.data.toList p = 125) : Calls Tryz.prog 63 #[.string s, .int .i64 (p : Int)] w fun e w' => e = tupV (tokV 2 p ((p : Int) + 1) emS 0) .nilIface ∧ Below w.heap.size w w' := by
  have q123 : ((s[p].toNat : Int) == 123) = false := by rw [byte_q s p hp, hc]; rfl
  have q125 : ((s[p].toNat : Int) == 125) = true := by rw [byte_q s p hp, hc]; rfl
  clear hc
  go_enter Tryz.func63, Tryz.ntmps63
  go_wp2
  refine bodyPost_ret (v := .tuple #[tokV 2 p ((p : Int) + 1) emS 0, .nilIface]) (by simp [results, Tryz.results63, go_sem, tokV, emS]) rfl ⟨rfl, ?_⟩
  (repeat (first | exact Below.refl _ _ | refine Below.alloc ?_ (by first | (simp; done) | (simp; omega)) _ | refine Below.setCell ?_ (by first | (simp; done) | (simp; omega)) _))
set_option maxRecDepth 100000 in
set_option maxHeartbeats 2000000 in
theorem sign_3 (s : ByteArray) (p : Nat) (w : World) (hs : s.size ≤ 1000) (hp : p < s.size) (hc : at0 s.data.toList p = 91) : Calls Tryz.prog 63 #[.string s, .int .i64 (p : Int)] w fun e w' => e = tupV (tokV 3 p ((p : Int) + 1) emS 0) .nilIface ∧ Below w.heap.size w w' := by
  have q123 : ((s[p].toNat : Int) == 123) = false := by rw [byte_q s p hp, hc]; rfl
  have q125 : ((s[p].toNat : Int) == 125) = false := by rw [byte_q s p hp, hc]; rfl
  have q91 : ((s[p].toNat : Int) == 91) = true := by rw [byte_q s p hp, hc]; rfl
  clear hc
  go_enter Tryz.func63, Tryz.ntmps63
  go_wp2
  refine bodyPost_ret (v := .tuple #[tokV 3 p ((p : Int) + 1) emS 0, .nilIface]) (by simp [results, Tryz.results63, go_sem, tokV, emS]) rfl ⟨rfl, ?_⟩
  (repeat (first | exact Below.refl _ _ | refine Below.alloc ?_ (by first | (simp; done) | (simp; omega)) _ | refine Below.setCell ?_ (by first | (simp; done) | (simp; omega)) _))
set_option maxRecDepth 100000 in
set_option maxHeartbeats 2000000 in
theorem sign_4 (s : ByteArray) (p : Nat) (w : World) (hs : s.size ≤ 1000) (hp : p < s.size) (hc : at0 s.data.toList p = 93) : Calls Tryz.prog 63 #[.string s, .int .i64 (p : Int)] w fun e w' => e = tupV (tokV 4 p ((p : Int) + 1) emS 0) .nilIface ∧ Below w.heap.size w w' := by
  have q123 : ((s[p].toNat : Int) == 123) = false := by rw [byte_q s p hp, hc]; rfl
  have q125 : ((s[p].toNat : Int) == 125) = false := by rw [byte_q s p hp, hc]; rfl
  have q91 : ((s[p].toNat : Int) == 91) = false := by rw [byte_q s p hp, hc]; rfl
  have q93 : ((s[p].toNat : Int) == 93) = true := by rw [byte_q s p hp, hc]; rfl
  clear hc
  go_enter Tryz.func63, Tryz.ntmps63
  go_wp2
  refine bodyPost_ret (v := .tuple #[tokV 4 p ((p : Int) + 1) emS 0, .nilIface]) (by simp [results, Tryz.results63, go_sem, tokV, emS]) rfl ⟨rfl, ?_⟩
  (repeat (first | exact Below.refl _ _ | refine Below.alloc ?_ (by first | (simp; done) | (simp; omega)) _ | refine Below.setCell ?_ (by first | (simp; done) | (simp; omega)) _))
set_option maxRecDepth 100000 in
set_option maxHeartbeats 2000000 in
theorem sign_5 (s : ByteArray) (p : Nat) (w : World) (hs : s.size ≤ 1000) (hp : p < s.size) (hc : at0 s.data.toList p = 58) : Calls Tryz.prog 63 #[.string s, .int .i64 (p : Int)] w fun e w' => e = tupV (tokV 5 p ((p : Int) + 1) emS 0) .nilIface ∧ Below w.heap.size w w' := by
  have q123 : ((s[p].toNat : Int) == 123) = false := by rw [byte_q s p hp, hc]; rfl
  have q125 : ((s[p].toNat : Int) == 125) = false := by rw [byte_q s p hp, hc]; rfl
  have q91 : ((s[p].toNat : Int) == 91) = false := by rw [byte_q s p hp, hc]; rfl
  have q93 : ((s[p].toNat : Int) == 93) = false := by rw [byte_q s p hp, hc]; rfl
  have q58 : ((s[p].toNat : Int) == 58) = true := by rw [byte_q s p hp, hc]; rfl
  clear hc
  go_enter Tryz.func63, Tryz.ntmps63
  go_wp2
  refine bodyPost_ret (v := .tuple #[tokV 5 p ((p : Int) + 1) emS 0, .nilIface]) (by simp [results, Tryz.results63, go_sem, tokV, emS]) rfl ⟨rfl, ?_⟩
  (repeat (first | exact Below.refl _ _ | refine Below.alloc ?_ (by first | (simp; done) | (simp; omega)) _ | refine Below.setCell ?_ (by first | (simp; done) | (simp; omega)) _))
set_option maxRecDepth 100000 in
set_option maxHeartbeats 2000000 in
theorem sign_6 (s : ByteArray) (p : Nat) (w : World) (hs : s.size ≤ 1000) (hp : p < s.size) (hc : at0 s.data.toList p = 44) : Calls Tryz.prog 63 #[.string s, .int .i64 (p : Int)] w fun e w' => e = tupV (tokV 6 p ((p : Int) + 1) emS 0) .nilIface ∧ Below w.heap.size w w' := by
  have q123 : ((s[p].toNat : Int) == 123) = false := by rw [byte_q s p hp, hc]; rfl
  have q125 : ((s[p].toNat : Int) == 125) = false := by rw [byte_q s p hp, hc]; rfl
  have q91 : ((s[p].toNat : Int) == 91) = false := by rw [byte_q s p hp, hc]; rfl
  have q93 : ((s[p].toNat : Int) == 93) = false := by rw [byte_q s p hp, hc]; rfl
  have q58 : ((s[p].toNat : Int) == 58) = false := by rw [byte_q s p hp, hc]; rfl
  have q44 : ((s[p].toNat : Int) == 44) = true := by rw [byte_q s p hp, hc]; rfl
  clear hc
  go_enter Tryz.func63, Tryz.ntmps63
  go_wp2
  refine bodyPost_ret (v := .tuple #[tokV 6 p ((p : Int) + 1) emS 0, .nilIface]) (by simp [results, Tryz.results63, go_sem, tokV, emS]) rfl ⟨rfl, ?_⟩
  (repeat (first | exact Below.refl _ _ | refine Below.alloc ?_ (by first | (simp; done) | (simp; omega)) _ | refine Below.setCell ?_ (by first | (simp; done) | (simp; omega)) _))
set_option maxRecDepth 100000 in
set_option maxHeartbeats 2000000 in
theorem sign_0 (s : ByteArray) (p : Nat) (w : World) (hs : s.size ≤ 1000) (hp : p < s.size) (hc : sgnI (at0 s.data.toList p) = 0) : Calls Tryz.prog 63 #[.string s, .int .i64 (p : Int)] w fun e w' => e = tupV (tokV 0 0 0 emS 0) (fltV p 3) ∧ Below w.heap.size w w' := by
  unfold sgnI at hc
  have q123 : ((s[p].toNat : Int) == 123) = false := by
    rw [byte_q s p hp, decide_eq_false_iff_not]
    intro e; rw [e] at hc; revert hc; decide
  have q125 : ((s[p].toNat : Int) == 125) = false := by
    rw [byte_q s p hp, decide_eq_false_iff_not]
    intro e; rw [e] at hc; revert hc; decide
  have q91 : ((s[p].toNat : Int) == 91) = false := by
    rw [byte_q s p hp, decide_eq_false_iff_not]
    intro e; rw [e] at hc; revert hc; decide
  have q93 : ((s[p].toNat : Int) == 93) = false := by
    rw [byte_q s p hp, decide_eq_false_iff_not]
    intro e; rw [e] at hc; revert hc; decide
  have q58 : ((s[p].toNat : Int) == 58) = false := by
    rw [byte_q s p hp, decide_eq_false_iff_not]
    intro e; rw [e] at hc; revert hc; decide
  have q44 : ((s[p].toNat : Int) == 44) = false := by
    rw [byte_q s p hp, decide_eq_false_iff_not]
    intro e; rw [e] at hc; revert hc; decide
  clear hc
  go_enter Tryz.func63, Tryz.ntmps63
  go_wp2
  refine bodyPost_ret (v := .tuple #[tokV 0 0 0 emS 0, fltV p 3]) (by simp [results, Tryz.results63, go_sem, tokV, emS, fltV]) rfl ⟨rfl, ?_⟩
  (repeat (first | exact Below.refl _ _ | refine Below.alloc ?_ (by first | (simp; done) | (simp; omega)) _ | refine Below.setCell ?_ (by first | (simp; done) | (simp; omega)) _))
end Go.Proofs.YtpgllcdcpdeicaaGreatDoor.Jt
namespace Go.Proofs.YtpgllcdcpdeicaaGreatDoor.Jt
open Go.RowKit
set_option linter.unusedSimpArgs false
set_option linter.unusedVariables false

theorem ext_list (s : ByteArray) (a b : Nat) : (s.extract a b).toList = cutL s.data.toList a b := by rw [Lib.toList_data, extract_cut]
set_option maxRecDepth 100000 in
set_option maxHeartbeats 2000000 in
theorem word_9 (s : ByteArray) (p : Nat) (w : World) (hs : s.size ≤ 1000) (hp : p < s.size) (hc : cutL s.data.toList p (endP wordB s.data.toList p) = trueL) : Calls Tryz.prog 62 #[.string s, .int .i64 (p : Int)] w fun e w' => e = tupV (tokV 9 p (endP wordB s.data.toList p : Nat) emS 0) .nilIface ∧ Below w.heap.size w w' := by
  have HR := Lib.hid (fun W => rowword_c s p W hs (by omega))
  have h1 := endP_ge wordB s.data.toList p
  have h2 : endP wordB s.data.toList p ≤ s.size := by rw [size_l]; exact endP_le (by rw [← size_l]; omega)
  have e0 := ext_list s p (endP wordB s.data.toList p)
  rw [hc] at e0
  clear hc
  revert HR h1 h2 e0
  generalize endP wordB s.data.toList p = to
  intro HR h1 h2 e0
  have q9 : ((s.extract p to).toList == [116, 114, 117, 101]) = true := by rw [e0]; rfl
  clear e0
  have h1' : (p : Int) ≤ (to : Int) := by omega
  have h2' : (to : Int) ≤ (s.size : Int) := by omega
  go_enter Tryz.func62, Tryz.ntmps62
  go_wp2_with (go_at_call 72; refine (HR.out _).mono ?_; rintro e w' ⟨rfl, rfl⟩)
  refine bodyPost_ret (v := .tuple #[tokV 9 p (to : Int) emS 0, .nilIface]) (by simp [results, Tryz.results62, go_sem, tokV, emS]) rfl ⟨rfl, ?_⟩
  (repeat (first | exact Below.refl _ _ | refine Below.alloc ?_ (by first | (simp; done) | (simp; omega)) _ | refine Below.setCell ?_ (by first | (simp; done) | (simp; omega)) _))
set_option maxRecDepth 100000 in
set_option maxHeartbeats 2000000 in
theorem word_10 (s : ByteArray) (p : Nat) (w : World) (hs : s.size ≤ 1000) (hp : p < s.size) (hc : cutL s.data.toList p (endP wordB s.data.toList p) = falseL) : Calls Tryz.prog 62 #[.string s, .int .i64 (p : Int)] w fun e w' => e = tupV (tokV 10 p (endP wordB s.data.toList p : Nat) emS 0) .nilIface ∧ Below w.heap.size w w' := by
  have HR := Lib.hid (fun W => rowword_c s p W hs (by omega))
  have h1 := endP_ge wordB s.data.toList p
  have h2 : endP wordB s.data.toList p ≤ s.size := by rw [size_l]; exact endP_le (by rw [← size_l]; omega)
  have e0 := ext_list s p (endP wordB s.data.toList p)
  rw [hc] at e0
  clear hc
  revert HR h1 h2 e0
  generalize endP wordB s.data.toList p = to
  intro HR h1 h2 e0
  have q9 : ((s.extract p to).toList == [116, 114, 117, 101]) = false := by rw [e0]; rfl
  have q10 : ((s.extract p to).toList == [102, 97, 108, 115, 101]) = true := by rw [e0]; rfl
  clear e0
  have h1' : (p : Int) ≤ (to : Int) := by omega
  have h2' : (to : Int) ≤ (s.size : Int) := by omega
  go_enter Tryz.func62, Tryz.ntmps62
  go_wp2_with (go_at_call 72; refine (HR.out _).mono ?_; rintro e w' ⟨rfl, rfl⟩)
  refine bodyPost_ret (v := .tuple #[tokV 10 p (to : Int) emS 0, .nilIface]) (by simp [results, Tryz.results62, go_sem, tokV, emS]) rfl ⟨rfl, ?_⟩
  (repeat (first | exact Below.refl _ _ | refine Below.alloc ?_ (by first | (simp; done) | (simp; omega)) _ | refine Below.setCell ?_ (by first | (simp; done) | (simp; omega)) _))
set_option maxRecDepth 100000 in
set_option maxHeartbeats 2000000 in
theorem word_11 (s : ByteArray) (p : Nat) (w : World) (hs : s.size ≤ 1000) (hp : p < s.size) (hc : cutL s.data.toList p (endP wordB s.data.toList p) = nullL) : Calls Tryz.prog 62 #[.string s, .int .i64 (p : Int)] w fun e w' => e = tupV (tokV 11 p (endP wordB s.data.toList p : Nat) emS 0) .nilIface ∧ Below w.heap.size w w' := by
  have HR := Lib.hid (fun W => rowword_c s p W hs (by omega))
  have h1 := endP_ge wordB s.data.toList p
  have h2 : endP wordB s.data.toList p ≤ s.size := by rw [size_l]; exact endP_le (by rw [← size_l]; omega)
  have e0 := ext_list s p (endP wordB s.data.toList p)
  rw [hc] at e0
  clear hc
  revert HR h1 h2 e0
  generalize endP wordB s.data.toList p = to
  intro HR h1 h2 e0
  have q9 : ((s.extract p to).toList == [116, 114, 117, 101]) = false := by rw [e0]; rfl
  have q10 : ((s.extract p to).toList == [102, 97, 108, 115, 101]) = false := by rw [e0]; rfl
  have q11 : ((s.extract p to).toList == [110, 117, 108, 108]) = true := by rw [e0]; rfl
  clear e0
  have h1' : (p : Int) ≤ (to : Int) := by omega
  have h2' : (to : Int) ≤ (s.size : Int) := by omega
  go_enter Tryz.func62, Tryz.ntmps62
  go_wp2_with (go_at_call 72; refine (HR.out _).mono ?_; rintro e w' ⟨rfl, rfl⟩)
  refine bodyPost_ret (v := .tuple #[tokV 11 p (to : Int) emS 0, .nilIface]) (by simp [results, Tryz.results62, go_sem, tokV, emS]) rfl ⟨rfl, ?_⟩
  (repeat (first | exact Below.refl _ _ | refine Below.alloc ?_ (by first | (simp; done) | (simp; omega)) _ | refine Below.setCell ?_ (by first | (simp; done) | (simp; omega)) _))
set_option maxRecDepth 100000 in
set_option maxHeartbeats 2000000 in
theorem word_0 (s : ByteArray) (p : Nat) (w : World) (hs : s.size ≤ 1000) (hp : p < s.size) (hc : wrdK (cutL s.data.toList p (endP wordB s.data.toList p)) = 0) : Calls Tryz.prog 62 #[.string s, .int .i64 (p : Int)] w fun e w' => e = tupV (tokV 0 0 0 emS 0) (fltV p 3) ∧ Below w.heap.size w w' := by
  have HR := Lib.hid (fun W => rowword_c s p W hs (by omega))
  have h1 := endP_ge wordB s.data.toList p
  have h2 : endP wordB s.data.toList p ≤ s.size := by rw [size_l]; exact endP_le (by rw [← size_l]; omega)
  have e0 := ext_list s p (endP wordB s.data.toList p)
  unfold wrdK at hc
  rw [← e0] at hc
  clear e0
  revert HR h1 h2 hc
  generalize endP wordB s.data.toList p = to
  intro hc HR h1 h2
  have q9 : ((s.extract p to).toList == [116, 114, 117, 101]) = false := by
    rw [beq_eq_false_iff_ne]; intro e; rw [e] at hc; revert hc; decide
  have q10 : ((s.extract p to).toList == [102, 97, 108, 115, 101]) = false := by
    rw [beq_eq_false_iff_ne]; intro e; rw [e] at hc; revert hc; decide
  have q11 : ((s.extract p to).toList == [110, 117, 108, 108]) = false := by
    rw [beq_eq_false_iff_ne]; intro e; rw [e] at hc; revert hc; decide
  clear hc
  have h1' : (p : Int) ≤ (to : Int) := by omega
  have h2' : (to : Int) ≤ (s.size : Int) := by omega
  go_enter Tryz.func62, Tryz.ntmps62
  go_wp2_with (go_at_call 72; refine (HR.out _).mono ?_; rintro e w' ⟨rfl, rfl⟩)
  refine bodyPost_ret (v := .tuple #[tokV 0 0 0 emS 0, fltV p 3]) (by simp [results, Tryz.results62, go_sem, tokV, emS, fltV]) rfl ⟨rfl, ?_⟩
  (repeat (first | exact Below.refl _ _ | refine Below.alloc ?_ (by first | (simp; done) | (simp; omega)) _ | refine Below.setCell ?_ (by first | (simp; done) | (simp; omega)) _))
set_option maxRecDepth 100000 in
set_option maxHeartbeats 2000000 in
theorem number_ok (s : ByteArray) (p : Nat) (w : World) (hs : s.size ≤ 1000) (hp : p < s.size) (hc : Nu.pE (cutL s.data.toList p (endP numB s.data.toList p)) = 0) : Calls Tryz.prog 60 #[.string s, .int .i64 (p : Int)] w fun e w' => e = tupV (tokV 8 p (endP numB s.data.toList p : Nat) emS (Nu.pN (cutL s.data.toList p (endP numB s.data.toList p)))) .nilIface ∧ Below w.heap.size w w' := by
  have HR := Lib.hid (fun W => rownum_c s p W hs (by omega))
  have h1 := endP_ge numB s.data.toList p
  have h2 : endP numB s.data.toList p ≤ s.size := by rw [size_l]; exact endP_le (by rw [← size_l]; omega)
  have hz : (s.extract p (endP numB s.data.toList p)).size ≤ 1000 := by rw [ByteArray.size_extract]; omega
  have HP := Lib.hid (fun W => Nu.parse_c (s.extract p (endP numB s.data.toList p)) W hz)
  rw [extract_cut] at HP
  rw [hc] at HP
  clear hc hz
  revert HR h1 h2 HP
  generalize Nu.pN (cutL s.data.toList p (endP numB s.data.toList p)) = n
  generalize endP numB s.data.toList p = to
  intro HR h1 h2 HP
  have h1' : (p : Int) ≤ (to : Int) := by omega
  have h2' : (to : Int) ≤ (s.size : Int) := by omega
  go_enter Tryz.func60, Tryz.ntmps60
  go_wp2_with (first | (go_at_call 72; refine (HR.out _).mono ?_; rintro e w' ⟨rfl, rfl⟩) | (go_at_call 74; refine (HP.out _).mono ?_; rintro e w' ⟨rfl, rfl⟩))
  refine bodyPost_ret (v := .tuple #[tokV 8 p (to : Int) emS n, .nilIface]) (by simp [results, Tryz.results60, go_sem, tokV, emS]) rfl ⟨rfl, ?_⟩
  (repeat (first | exact Below.refl _ _ | refine Below.alloc ?_ (by first | (simp; done) | (simp; omega)) _ | refine Below.setCell ?_ (by first | (simp; done) | (simp; omega)) _))
set_option maxRecDepth 100000 in
set_option maxHeartbeats 2000000 in
theorem number_no (s : ByteArray) (p : Nat) (w : World) (hs : s.size ≤ 1000) (hp : p < s.size) (hc : Nu.pE (cutL s.data.toList p (endP numB s.data.toList p)) ≠ 0) : Calls Tryz.prog 60 #[.string s, .int .i64 (p : Int)] w fun e w' => e = tupV (tokV 0 0 0 emS 0) (fltV p (Nu.pE (cutL s.data.toList p (endP numB s.data.toList p)))) ∧ Below w.heap.size w w' := by
  have HR := Lib.hid (fun W => rownum_c s p W hs (by omega))
  have h1 := endP_ge numB s.data.toList p
  have h2 : endP numB s.data.toList p ≤ s.size := by rw [size_l]; exact endP_le (by rw [← size_l]; omega)
  have hz : (s.extract p (endP numB s.data.toList p)).size ≤ 1000 := by rw [ByteArray.size_extract]; omega
  have HP := Lib.hid (fun W => Nu.parse_c (s.extract p (endP numB s.data.toList p)) W hz)
  rw [extract_cut] at HP
  clear hz
  revert HR h1 h2 HP hc
  generalize Nu.pN (cutL s.data.toList p (endP numB s.data.toList p)) = n
  generalize Nu.pE (cutL s.data.toList p (endP numB s.data.toList p)) = e0
  generalize endP numB s.data.toList p = to
  intro hc HR h1 h2 HP
  have q : (e0 != 0) = true := by simpa using hc
  clear hc
  have h1' : (p : Int) ≤ (to : Int) := by omega
  have h2' : (to : Int) ≤ (s.size : Int) := by omega
  go_enter Tryz.func60, Tryz.ntmps60
  go_wp2_with (first | (go_at_call 72; refine (HR.out _).mono ?_; rintro e w' ⟨rfl, rfl⟩) | (go_at_call 74; refine (HP.out _).mono ?_; rintro e w' ⟨rfl, rfl⟩))
  refine bodyPost_ret (v := .tuple #[tokV 0 0 0 emS 0, fltV p e0]) (by simp [results, Tryz.results60, go_sem, tokV, emS, fltV]) rfl ⟨rfl, ?_⟩
  (repeat (first | exact Below.refl _ _ | refine Below.alloc ?_ (by first | (simp; done) | (simp; omega)) _ | refine Below.setCell ?_ (by first | (simp; done) | (simp; omega)) _))
end Go.Proofs.YtpgllcdcpdeicaaGreatDoor.Jt
namespace Go.Proofs.YtpgllcdcpdeicaaGreatDoor.Jt
open Go.RowKit
set_option linter.unusedSimpArgs false
set_option linter.unusedVariables false

theorem valid_c (s : ByteArray) (w : World) (hT : Ut.Tabs w) (hs : s.size ≤ 1000) : Calls Tryz.prog 80 #[.string s] w fun e w' => e = .returned (.bool (vldB s.data.toList)) ∧ Below w.heap.size w w' := by
  have HW := Lib.hid (Ut.walk_c s w hT hs)
  have HV : Hid (vldB s.data.toList = decide ((Ut.walkL (Ut.nums s)).2 = s.size)) := by
    show vldB s.data.toList = _
    unfold vldB; rw [nums_nl, size_l]
  revert HW HV
  generalize Ut.walkL (Ut.nums s) = q
  intro HW HV
  obtain ⟨n, k⟩ := q
  simp only [Ut.tup2] at HW HV
  clear hT
  go_enter Tryz.func80, Tryz.ntmps80
  go_wp2_with fail
  refine HW.out.mono ?_
  rintro e w1 ⟨rfl, hb1⟩
  have B1 := Lib.hid hb1
  clear hb1
  go_wp2
  go_ret
  refine ⟨ret_bool ?_, B1.out⟩
  rw [HV.out, Bool.eq_iff_iff]
  simp
  try omega
theorem pair_no (hi lo : Int) (w : World) (h : ¬ (55296 ≤ hi ∧ hi ≤ 56319 ∧ 56320 ≤ lo ∧ lo ≤ 57343)) : Calls Tryz.prog 92 #[.int .i32 hi, .int .i32 lo] w fun e w' => e = .returned (.tuple #[.int .i32 0, .bool false]) ∧ w = w' := by
  by_cases h1 : hi < 55296
  · clear h
    go_enter Tryz.func92, Tryz.ntmps92
    go_wp2
    go_ret2
    exact ⟨rfl, rfl⟩
  · by_cases h2 : 56320 ≤ hi
    · clear h
      go_enter Tryz.func92, Tryz.ntmps92
      go_wp2
      go_ret2
      exact ⟨rfl, rfl⟩
    · by_cases h3 : lo < 56320
      · clear h
        go_enter Tryz.func92, Tryz.ntmps92
        go_wp2
        go_ret2
        exact ⟨rfl, rfl⟩
      · have h4 : 57343 < lo := by omega
        clear h
        go_enter Tryz.func92, Tryz.ntmps92
        go_wp2
        go_ret2
        exact ⟨rfl, rfl⟩
theorem ret_pair {a b : Int} (h : a = b) : Ending.returned (.tuple #[.int .i32 a, .bool true]) = .returned (.tuple #[.int .i32 b, .bool true]) := by rw [h]
theorem pair_yes (hi lo : Int) (w : World) (h1 : 55296 ≤ hi) (h2 : hi ≤ 56319) (h3 : 56320 ≤ lo) (h4 : lo ≤ 57343) : Calls Tryz.prog 92 #[.int .i32 hi, .int .i32 lo] w fun e w' => e = .returned (.tuple #[.int .i32 (65536 + (hi - 55296) * 1024 + lo - 56320), .bool true]) ∧ w = w' := by
  go_enter Tryz.func92, Tryz.ntmps92
  go_wp2
  go_ret2
  exact ⟨ret_pair (by omega), rfl⟩

/-- what the unit at a place is: -1: none -/
def uniA (l : List UInt8) (k : Nat) : Int := if k + 6 ≤ l.length ∧ at0 l k = 92 ∧ at0 l (k + 1) = 117 then hexA l (k + 2) else -1
theorem rd_four (l : List UInt8) (h : l.length = 4) : 0 ≤ Nu.rdN 16 2147483647 l ∧ Nu.rdN 16 2147483647 l ≤ 65535 := by
  unfold Nu.rdN
  split
  · rename_i g
    have := Nu.val_bd (B := 16) (.inr rfl) l g.2.1
    rw [h] at this
    have e : (16 : Int) ^ 4 = 65536 := by decide
    omega
  · omega
theorem hexA_bd (l : List UInt8) (k : Nat) : -1 ≤ hexA l k ∧ hexA l k ≤ 65535 := by
  unfold hexA
  split
  · omega
  · rename_i h
    split
    · have := rd_four (cutL l k (k + 4)) (by rw [cutL_len (by omega)]; omega)
      omega
    · omega
theorem rdE_cases (B M : Int) (l : List UInt8) : Nu.rdE B M l = 0 ∨ ((Nu.rdE B M l == 0) = false ∧ Nu.rdN B M l = 0) := by
  unfold Nu.rdE Nu.rdN
  by_cases h : l ≠ [] ∧ l.all (Nu.okD B) = true
  · rw [if_pos h]
    by_cases h2 : Nu.val B l ≤ M
    · rw [if_pos h2]; exact .inl rfl
    · rw [if_neg h2, if_neg (fun g => h2 g.2.2)]; exact .inr ⟨by decide, rfl⟩
  · rw [if_neg h, if_neg (fun g => h ⟨g.1, g.2.1⟩)]; exact .inr ⟨by decide, rfl⟩
set_option maxRecDepth 100000 in
set_option maxHeartbeats 2000000 in
theorem unit_yes (s : ByteArray) (k : Nat) (w : World) (hs : s.size ≤ 1000) (h : 0 ≤ uniA s.data.toList k) : Calls Tryz.prog 90 #[.string s, .int .i64 (k : Int)] w fun e w' => e = .returned (.tuple #[.int .i32 (uniA s.data.toList k), .bool true]) ∧ w = w' := by
  unfold uniA at h ⊢
  by_cases hc : k + 6 ≤ s.data.toList.length ∧ at0 s.data.toList k = 92 ∧ at0 s.data.toList (k + 1) = 117
  · rw [if_pos hc] at h ⊢
    obtain ⟨h1, h2, h3⟩ := hc
    rw [← size_l] at h1
    have hbd := hexA_bd s.data.toList (k + 2)
    unfold hexA at h hbd ⊢
    rw [← size_l, if_neg (by omega)] at h hbd ⊢
    by_cases hE : Nu.rdE 16 2147483647 (cutL s.data.toList (k + 2) (k + 2 + 4)) = 0
    · rw [if_pos hE] at h hbd ⊢
      have q1 : ((s[k].toNat : Int) != 92) = false := by rw [bne, byte_q s k (by omega), h2]; rfl
      have q2 : ((s[k + 1].toNat : Int) != 117) = false := by rw [bne, byte_q s (k + 1) (by omega), h3]; rfl
      have hz : (s.extract (k + 2) (k + 6)).size ≤ 1000 := by rw [ByteArray.size_extract]; omega
      have HP := Lib.hid (fun W => Nu.hex_c (s.extract (k + 2) (k + 6)) W hz)
      rw [extract_cut, show k + 6 = k + 2 + 4 by omega, hE] at HP
      rw [show k + 2 + 4 = k + 6 by omega] at HP
      rw [show k + 2 + 4 = k + 6 by omega] at h hbd ⊢
      clear hE h2 h3 hz
      revert HP h hbd
      generalize Nu.rdN 16 2147483647 (cutL s.data.toList (k + 2) (k + 6)) = n
      intro h hbd HP
      obtain ⟨_, hb2⟩ := hbd
      have h1' : (k : Int) + 6 ≤ (s.size : Int) := by omega
      have hx : ¬ ((s.size : Int) - (k : Int) < 6) := by omega
      have hk0 : (0 : Int) ≤ (k : Int) := by omega
      go_enter Tryz.func90, Tryz.ntmps90
      go_wp2_with (go_at_call 96; refine (HP.out _).mono ?_; rintro e w' ⟨rfl, rfl⟩)
      go_ret2
      exact ⟨rfl, rfl⟩
    · rw [if_neg hE] at h; omega
  · rw [if_neg hc] at h; omega
set_option maxRecDepth 100000 in
set_option maxHeartbeats 2000000 in
theorem unit_no (s : ByteArray) (k : Nat) (w : World) (hs : s.size ≤ 1000) (hk : k ≤ s.size) (h : uniA s.data.toList k < 0) : Calls Tryz.prog 90 #[.string s, .int .i64 (k : Int)] w fun e w' => e = .returned (.tuple #[.int .i32 0, .bool false]) ∧ w = w' := by
  by_cases h1 : k + 6 ≤ s.size
  · have hx : ¬ ((s.size : Int) - (k : Int) < 6) := by omega
    have h1' : (k : Int) + 6 ≤ (s.size : Int) := by omega
    have hk0 : (0 : Int) ≤ (k : Int) := by omega
    by_cases h2 : at0 s.data.toList k = 92
    · have q1 : ((s[k].toNat : Int) != 92) = false := by rw [bne, byte_q s k (by omega), h2]; rfl
      by_cases h3 : at0 s.data.toList (k + 1) = 117
      · have q2 : ((s[k + 1].toNat : Int) != 117) = false := by rw [bne, byte_q s (k + 1) (by omega), h3]; rfl
        unfold uniA hexA at h
        rw [if_pos ⟨by rw [← size_l]; omega, h2, h3⟩, ← size_l, if_neg (by omega)] at h
        have hz : (s.extract (k + 2) (k + 6)).size ≤ 1000 := by rw [ByteArray.size_extract]; omega
        have HP := Lib.hid (fun W => Nu.hex_c (s.extract (k + 2) (k + 6)) W hz)
        rw [extract_cut] at HP
        have hN := (Nu.rdN_bd 16 2147483647 (.inr rfl) (by decide) (cutL s.data.toList (k + 2) (k + 6))).1
        rw [show k + 2 + 4 = k + 6 by omega] at h
        rcases rdE_cases 16 2147483647 (cutL s.data.toList (k + 2) (k + 6)) with g | ⟨g, g2⟩
        · rw [if_pos g] at h; omega
        · rw [g2] at HP
          clear h h2 h3 hz hN g2
          revert HP g
          generalize Nu.rdE 16 2147483647 (cutL s.data.toList (k + 2) (k + 6)) = e0
          intro HP g
          go_enter Tryz.func90, Tryz.ntmps90
          go_wp2_with (go_at_call 96; refine (HP.out _).mono ?_; rintro e w' ⟨rfl, rfl⟩)
          go_ret2
          exact ⟨rfl, rfl⟩
      · have q2 : ((s[k + 1].toNat : Int) != 117) = true := by rw [bne, byte_q s (k + 1) (by omega), decide_eq_false h3]; rfl
        clear h h2 h3
        go_enter Tryz.func90, Tryz.ntmps90
        go_wp2
        go_ret2
        exact ⟨rfl, rfl⟩
    · have q1 : ((s[k].toNat : Int) != 92) = true := by rw [bne, byte_q s k (by omega), decide_eq_false h2]; rfl
      clear h h2
      go_enter Tryz.func90, Tryz.ntmps90
      go_wp2
      go_ret2
      exact ⟨rfl, rfl⟩
  · have hx : ((s.size : Int) - (k : Int) < 6) := by omega
    clear h
    go_enter Tryz.func90, Tryz.ntmps90
    go_wp2
    go_ret2
    exact ⟨rfl, rfl⟩
end Go.Proofs.YtpgllcdcpdeicaaGreatDoor.Jt
namespace Go.Proofs.YtpgllcdcpdeicaaGreatDoor.Jt
open Go.RowKit
set_option linter.unusedSimpArgs false
set_option linter.unusedVariables false

def mkS (l : List UInt8) : ByteArray := ⟨l.toArray⟩
theorem mkS_of {s : ByteArray} {l : List UInt8} (h : s.data.toList = l) : s = mkS l := by subst h; exact (Lib.mk_data s).symm
theorem data_mkS (l : List UInt8) : (mkS l).data.toList = l := rfl
theorem size_mkS (l : List UInt8) : (mkS l).size = l.length := by rw [size_l, data_mkS]
def tup3 (x : ByteArray) (k : Int) (b : Bool) : Ending := .returned (.tuple #[.string x, .int .i64 k, .bool b])
theorem bl_len (l : List Int) : (bl l).length = l.length := by unfold bl; rw [List.length_map]
theorem nl_bl {zs : List Int} (h : Ut.Byt zs) : nl (bl zs) = zs := by
  unfold nl bl
  rw [List.map_map]
  conv => rhs; rw [← List.map_id zs]
  apply List.map_congr_left
  intro z hz
  have := h z hz
  show nb (UInt8.ofNat z.toNat) = z
  unfold nb
  have e : (UInt8.ofNat z.toNat).toNat = z.toNat % 256 := by simp
  rw [e]; omega
theorem bts_back {w : World} {g cap : Nat} {zs : List Int} (h : Ut.Bts w g 0 zs) (hy : Ut.Byt zs) : (convert 82 9 (.slice (some ⟨g, 0, none⟩) zs.length cap)).run Tryz.prog w = .ok (.string (mkS (bl zs))) w := by
  have e := run_convert_bytes_back w 82 9 5 ⟨g, 0, none⟩ cap (bl zs) Tryz.underlying82 Tryz.underlying5 Tryz.underlying9 (fun j hj => ?_)
  · rw [bl_len] at e; exact e
  · have hj' : j < zs.length := by rw [bl_len] at hj; exact hj
    have hc := h j hj'
    have ea : (⟨g, 0, none⟩ : Addr).add j = ⟨g, 0 + j, none⟩ := by unfold Addr.add; split <;> simp_all
    rw [ea, hc]
    have hn : (nl (bl zs))[j]'(by rw [nl_len]; exact hj) = zs[j] := by
      have := nl_bl hy
      simp only [this]
    rw [← hn]
    simp [nl, nb]
/-- what the half behind the first one makes -/
theorem back_u {l : List UInt8} {k : Nat} (h1 : k + 1 < l.length) (h2 : at0 l k = 92) (h3 : at0 l (k + 1) = 117) :
    backL l k = if uniA l k < 0 then ([], 0)
      else if (55296 ≤ uniA l k ∧ uniA l k < 56320) ∧ 56320 ≤ uniA l (k + 6) ∧ uniA l (k + 6) < 57344 then (bl (Ut.putI (65536 + (uniA l k - 55296) * 1024 + uniA l (k + 6) - 56320)), 12)
      else if Ut.isR (uniA l k) = true then (bl (Ut.putI (uniA l k)), 6) else ([], 0) := by
  have e0 : uniA l k = hexA l (k + 2) := by
    unfold uniA
    by_cases h : k + 6 ≤ l.length
    · rw [if_pos ⟨h, h2, h3⟩]
    · rw [if_neg (fun g => h g.1)]; unfold hexA; rw [if_pos (by omega)]
  have e1 : escI 117 = -1 := by decide
  unfold backL
  rw [if_neg (by omega), h3, e1, if_neg (by decide), e0]
  by_cases hx : hexA l (k + 2) < 0
  · rw [if_pos (.inr hx), if_pos hx]
  · rw [if_neg (fun g => by rcases g with g | g; exact g rfl; exact hx g), if_neg hx]
    by_cases hp : (55296 ≤ hexA l (k + 2) ∧ hexA l (k + 2) < 56320) ∧ 56320 ≤ uniA l (k + 6) ∧ uniA l (k + 6) < 57344
    · have hu : (k + 6) + 6 ≤ l.length ∧ at0 l (k + 6) = 92 ∧ at0 l (k + 6 + 1) = 117 := by
        by_cases hh : (k + 6) + 6 ≤ l.length ∧ at0 l (k + 6) = 92 ∧ at0 l (k + 6 + 1) = 117
        · exact hh
        · have := hp.2.1; unfold uniA at this; rw [if_neg hh] at this; omega
      have e2 : uniA l (k + 6) = hexA l (k + 8) := by unfold uniA; rw [if_pos hu]
      rw [if_pos hp]
      rw [e2] at hp ⊢
      rw [if_pos ⟨hp.1, by omega, hu.2.1, hu.2.2, hp.2⟩]
    · rw [if_neg hp, if_neg]
      rintro ⟨a1, a2, a3, a4, a5⟩
      apply hp
      refine ⟨a1, ?_⟩
      have e2 : uniA l (k + 6) = hexA l (k + 8) := by
        unfold uniA
        by_cases h : k + 6 + 6 ≤ l.length
        · rw [if_pos ⟨h, a3, a4⟩]
        · rw [if_neg (fun g => h g.1)]; unfold hexA; rw [if_pos (by omega)]
      rw [e2]; exact a5

theorem isR_hex {v : Int} (h0 : 0 ≤ v) (h1 : v ≤ 65535) : Ut.isR v = decide (v < 55296 ∨ 57343 < v) := by
  unfold Ut.isR; rw [Bool.eq_iff_iff]; simp; omega
theorem putI_byt0 : Ut.Byt (Ut.putI 0) := Ut.putI_byt 0 (by decide)
set_option maxRecDepth 100000 in
set_option maxHeartbeats 4000000 in
/-- one unit that is a rune -/
theorem esr_one (s : ByteArray) (k : Nat) (v : Int) (w : World) (hT : Ut.Tabs w) (hs : s.size ≤ 1000) (hk : k ≤ s.size) (hv : uniA s.data.toList k = v) (h0 : 0 ≤ v) (h1 : Ut.isR v = true) :
    Calls Tryz.prog 84 #[.string s, .int .i64 (k : Int)] w fun e w' => e = tup3 (mkS (bl (Ut.putI v))) ((k : Int) + 6) true ∧ Below w.heap.size w w' := by
  have HU := Lib.hid (unit_yes s k w hs (by rw [hv]; exact h0))
  rw [hv] at HU
  have HP := Lib.hid (Ut.put_c v w hT h1)
  have hy := Ut.putI_byt v h1
  clear hv h1 hT
  revert HP hy
  generalize Ut.putI v = zs
  intro HP hy
  have HY := Lib.hid hy
  clear hy
  go_enter Tryz.func84, Tryz.ntmps84
  go_wp2_with fail
  refine HU.out.mono ?_
  rintro e w' ⟨rfl, rfl⟩
  go_wp2_with fail
  refine HP.out.mono ?_
  rintro e w1 ⟨g, cap, rfl, hc1, hc2, hg, hB, hb⟩
  have hcv := bts_back (cap := cap) hB HY.out
  have B1 := Lib.hid hb
  clear hb hB hc1 hc2 hg
  go_wp2
  go_ret3
  exact ⟨rfl, B1.out⟩
set_option maxRecDepth 100000 in
set_option maxHeartbeats 4000000 in
/-- no unit -/
theorem esr_none (s : ByteArray) (k : Nat) (w : World) (hs : s.size ≤ 1000) (hk : k ≤ s.size) (hv : uniA s.data.toList k < 0) :
    Calls Tryz.prog 84 #[.string s, .int .i64 (k : Int)] w fun e w' => (∃ t j, e = tup3 t j false) ∧ Below w.heap.size w w' := by
  have HU := Lib.hid (unit_no s k w hs hk hv)
  clear hv
  go_enter Tryz.func84, Tryz.ntmps84
  go_wp2_with fail
  refine HU.out.mono ?_
  rintro e w' ⟨rfl, rfl⟩
  go_wp2
  go_ret3
  exact ⟨⟨_, _, rfl⟩, Below.refl _ _⟩
set_option maxRecDepth 100000 in
set_option maxHeartbeats 4000000 in
/-- a half without a unit behind it -/
theorem esr_half (s : ByteArray) (k : Nat) (v : Int) (w : World) (hs : s.size ≤ 1000) (hk : k + 6 ≤ s.size) (hv : uniA s.data.toList k = v) (h0 : 0 ≤ v) (h1 : Ut.isR v = false) (h2 : uniA s.data.toList (k + 6) < 0) :
    Calls Tryz.prog 84 #[.string s, .int .i64 (k : Int)] w fun e w' => (∃ t j, e = tup3 t j false) ∧ Below w.heap.size w w' := by
  have HU := Lib.hid (unit_yes s k w hs (by rw [hv]; exact h0))
  rw [hv] at HU
  have HP := Lib.hid (Ut.put_no v w h1)
  have HL := Lib.hid (unit_no s (k + 6) w hs (by omega) h2)
  have ec : ((k + 6 : Nat) : Int) = (k : Int) + 6 := by omega
  rw [ec] at HL
  clear hv h1 h2 ec
  go_enter Tryz.func84, Tryz.ntmps84
  go_wp2_with fail
  refine HU.out.mono ?_
  rintro e w' ⟨rfl, rfl⟩
  go_wp2_with fail
  refine HP.out.mono ?_
  rintro e w' ⟨rfl, rfl⟩
  go_wp2_with fail
  refine HL.out.mono ?_
  rintro e w' ⟨rfl, rfl⟩
  go_wp2
  go_ret3
  exact ⟨⟨_, _, rfl⟩, Below.refl _ _⟩
set_option maxRecDepth 100000 in
set_option maxHeartbeats 4000000 in
/-- two units, the first one no rune: a pair or not -/
theorem esr_two (s : ByteArray) (k : Nat) (v u r : Int) (b : Bool) (w : World) (hT : Ut.Tabs w) (hs : s.size ≤ 1000) (hk : k + 6 ≤ s.size) (hv : uniA s.data.toList k = v) (h0 : 0 ≤ v) (h1 : Ut.isR v = false) (hu : uniA s.data.toList (k + 6) = u) (h2 : 0 ≤ u)
    (hp : ∀ W, Calls Tryz.prog 92 #[.int .i32 v, .int .i32 u] W fun e w' => e = .returned (.tuple #[.int .i32 r, .bool b]) ∧ W = w') (hr : Ut.isR r = true) :
    Calls Tryz.prog 84 #[.string s, .int .i64 (k : Int)] w fun e w' => e = tup3 (mkS (bl (Ut.putI r))) ((k : Int) + 12) b ∧ Below w.heap.size w w' := by
  have HU := Lib.hid (unit_yes s k w hs (by rw [hv]; exact h0))
  rw [hv] at HU
  have HN := Lib.hid (Ut.put_no v w h1)
  have HL := Lib.hid (unit_yes s (k + 6) w hs (by rw [hu]; exact h2))
  have ec : ((k + 6 : Nat) : Int) = (k : Int) + 6 := by omega
  rw [ec, hu] at HL
  have HQ := Lib.hid (hp w)
  have HP := Lib.hid (Ut.put_c r w hT hr)
  have hy := Ut.putI_byt r hr
  clear hv h1 hu hT hr hp ec
  revert HP hy
  generalize Ut.putI r = zs
  intro HP hy
  have HY := Lib.hid hy
  clear hy
  go_enter Tryz.func84, Tryz.ntmps84
  go_wp2_with fail
  refine HU.out.mono ?_
  rintro e w' ⟨rfl, rfl⟩
  go_wp2_with fail
  refine HN.out.mono ?_
  rintro e w' ⟨rfl, rfl⟩
  go_wp2_with fail
  refine HL.out.mono ?_
  rintro e w' ⟨rfl, rfl⟩
  go_wp2_with fail
  refine HQ.out.mono ?_
  rintro e w' ⟨rfl, rfl⟩
  go_wp2_with fail
  refine HP.out.mono ?_
  rintro e w1 ⟨g, cap, rfl, hc1, hc2, hg, hB, hb⟩
  have hcv := bts_back (cap := cap) hB HY.out
  have B1 := Lib.hid hb
  clear hb hB hc1 hc2 hg
  go_wp2
  go_ret3
  exact ⟨rfl, B1.out⟩
/-- what a part is: right, or wrong -/
def PcP (k : Nat) (r : List UInt8 × Nat) (w : World) (e : Ending) (w' : World) : Prop := (if r.2 = 0 then ∃ t j, e = tup3 t j false else e = tup3 (mkS r.1) ((k : Int) + (r.2 : Nat)) true) ∧ Below w.heap.size w w'
theorem pcp_no {k : Nat} {r : List UInt8 × Nat} {w : World} {e : Ending} {w' : World} (h : r.2 = 0) (g : (∃ t j, e = tup3 t j false) ∧ Below w.heap.size w w') : PcP k r w e w' := by unfold PcP; rw [if_pos h]; exact g
theorem pcp_yes {k n : Nat} {r : List UInt8 × Nat} {w : World} {e : Ending} {w' : World} (hn : r.2 = n) (h : n ≠ 0) (g : e = tup3 (mkS r.1) ((k : Int) + (n : Nat)) true ∧ Below w.heap.size w w') : PcP k r w e w' := by unfold PcP; rw [hn, if_neg h]; exact g
theorem uni_len {l : List UInt8} {k : Nat} (h : 0 ≤ uniA l k) : k + 6 ≤ l.length := by
  unfold uniA at h
  by_cases g : k + 6 ≤ l.length ∧ at0 l k = 92 ∧ at0 l (k + 1) = 117
  · exact g.1
  · rw [if_neg g] at h; omega
theorem uni_bd (l : List UInt8) (k : Nat) : uniA l k ≤ 65535 := by
  unfold uniA; split
  · exact (hexA_bd _ _).2
  · omega
theorem esr_c (s : ByteArray) (k : Nat) (w : World) (hT : Ut.Tabs w) (hs : s.size ≤ 1000) (hk : k + 1 < s.size) (h2 : at0 s.data.toList k = 92) (h3 : at0 s.data.toList (k + 1) = 117) :
    Calls Tryz.prog 84 #[.string s, .int .i64 (k : Int)] w (PcP k (backL s.data.toList k) w) := by
  rw [back_u (by rw [← size_l]; exact hk) h2 h3]
  by_cases hv : uniA s.data.toList k < 0
  · rw [if_pos hv]
    exact (esr_none s k w hs (by omega) hv).mono fun e w' g => pcp_no rfl g
  · rw [if_neg hv]
    have hl := uni_len (l := s.data.toList) (k := k) (by omega)
    rw [← size_l] at hl
    have hb := uni_bd s.data.toList k
    have hir := isR_hex (v := uniA s.data.toList k) (by omega) hb
    by_cases hp : (55296 ≤ uniA s.data.toList k ∧ uniA s.data.toList k < 56320) ∧ 56320 ≤ uniA s.data.toList (k + 6) ∧ uniA s.data.toList (k + 6) < 57344
    · rw [if_pos hp]
      refine (esr_two s k _ _ _ true w hT hs hl rfl (by omega) (by rw [hir, decide_eq_false_iff_not]; omega) rfl (by omega) (fun W => pair_yes _ _ W hp.1.1 (by omega) hp.2.1 (by omega)) (by unfold Ut.isR; rw [decide_eq_true_eq]; omega)).mono fun e w' g => pcp_yes (n := 12) rfl (by decide) g
    · rw [if_neg hp]
      cases hr : Ut.isR (uniA s.data.toList k) with
      | true =>
        rw [if_pos rfl]
        exact (esr_one s k _ w hT hs (by omega) rfl (by omega) hr).mono fun e w' g => pcp_yes (n := 6) rfl (by decide) g
      | false =>
        rw [if_neg (by decide)]
        rw [hir, decide_eq_false_iff_not] at hr
        by_cases hu : uniA s.data.toList (k + 6) < 0
        · exact (esr_half s k _ w hs hl rfl (by omega) (by rw [hir, decide_eq_false_iff_not]; exact hr) hu).mono fun e w' g => pcp_no rfl g
        · exact (esr_two s k _ _ 0 false w hT hs hl rfl (by omega) (by rw [hir, decide_eq_false_iff_not]; exact hr) rfl (by omega) (fun W => pair_no _ _ W (by omega)) (by decide)).mono fun e w' g => pcp_no rfl ⟨⟨_, _, g.1⟩, g.2⟩
end Go.Proofs.YtpgllcdcpdeicaaGreatDoor.Jt
namespace Go.Proofs.YtpgllcdcpdeicaaGreatDoor.Jt
open Go.RowKit
set_option linter.unusedSimpArgs false
set_option linter.unusedVariables false

def behL : List UInt8 := [34, 92, 98, 102, 110, 114, 116]
def meaL : List UInt8 := [34, 92, 8, 12, 10, 13, 9]
theorem esc_all : ∀ n : Fin 256, decide (0 ≤ Lib.indexByte behL (UInt8.ofNat n.val)) = (decide (0 ≤ escI (n.val : Int)) && decide ((n.val : Int) ≠ 47)) := by decide +kernel
theorem esc_mea : ∀ n : Fin 256, decide (0 ≤ Lib.indexByte behL (UInt8.ofNat n.val)) = true → decide (Lib.indexByte behL (UInt8.ofNat n.val) < 7) = true ∧ (meaL.drop (Lib.indexByte behL (UInt8.ofNat n.val)).toNat).take 1 = [UInt8.ofNat (escI (n.val : Int)).toNat] := by decide +kernel
theorem esc_idx (c : UInt8) : (∃ i : Nat, i < 7 ∧ Lib.indexByte behL c = (i : Int) ∧ 0 ≤ escI (nb c) ∧ (meaL.drop i).take 1 = [UInt8.ofNat (escI (nb c)).toNat]) ∨ (Lib.indexByte behL c < 0 ∧ (nb c = 47 ∨ escI (nb c) < 0)) := by
  have h1 := esc_all ⟨c.toNat, c.toNat_lt⟩
  have h2 := esc_mea ⟨c.toNat, c.toNat_lt⟩
  have e : UInt8.ofNat c.toNat = c := by simp
  simp only [e] at h1 h2
  have en : ((c.toNat : Nat) : Int) = nb c := rfl
  rw [en] at h1 h2
  by_cases h : 0 ≤ Lib.indexByte behL c
  · left
    obtain ⟨a, b⟩ := h2 (by simpa using h)
    rw [decide_eq_true_eq] at a
    rw [decide_eq_true h] at h1
    have h3 := h1.symm
    rw [Bool.and_eq_true, decide_eq_true_eq, decide_eq_true_eq] at h3
    exact ⟨(Lib.indexByte behL c).toNat, by omega, by omega, h3.1, b⟩
  · right
    rw [decide_eq_false h] at h1
    refine ⟨by omega, ?_⟩
    by_cases h4 : nb c = 47
    · exact .inl h4
    · right
      rw [decide_eq_true (p := nb c ≠ 47) h4, Bool.and_true] at h1
      have := of_decide_eq_false h1.symm
      omega
theorem mea_sub (i : Nat) (x : UInt8) (h : (meaL.drop i).take 1 = [x]) : (ByteArray.mk #[34, 92, 8, 12, 10, 13, 9]).extract i (i + 1) = mkS [x] := mkS_of (by
  rw [Lib.extract_data, show i + 1 - i = 1 by omega]; exact h)
theorem byte_back (c : UInt8) : (nb c).toNat.toUInt8 = c := by unfold nb; simp
theorem t3 {a b : ByteArray} {k j : Int} {x y : Bool} (h1 : a = b) (h2 : k = j) (h3 : x = y) : Ending.returned (.tuple #[.string a, .int .i64 k, .bool x]) = tup3 b j y := by subst h1 h2 h3; rfl
set_option maxRecDepth 100000 in
set_option maxHeartbeats 4000000 in
theorem escaped_c (s : ByteArray) (k : Nat) (w : World) (hT : Ut.Tabs w) (hs : s.size ≤ 1000) (hk : k < s.size) (h2 : at0 s.data.toList k = 92) :
    Calls Tryz.prog 78 #[.string s, .int .i64 (k : Int)] w (PcP k (backL s.data.toList k) w) := by
  by_cases hk1 : k + 1 = s.size
  · have HB : Hid (backL s.data.toList k = ([], 0)) := by show backL s.data.toList k = _; unfold backL; rw [if_pos (by rw [← size_l]; omega)]
    have q : ((k : Int) + 1 == (s.size : Int)) = true := by simp; omega
    clear h2 hT
    go_enter Tryz.func78, Tryz.ntmps78
    go_wp2
    go_ret3
    exact pcp_no (by rw [HB.out]) ⟨⟨_, _, rfl⟩, Below.refl _ _⟩
  · have q : ((k : Int) + 1 == (s.size : Int)) = false := by simp; omega
    have hk2 : k + 1 < s.size := by omega
    have hk2' : (k : Int) + 1 < (s.size : Int) := by omega
    have hb := byte_i s (k + 1) hk2
    by_cases hu : at0 s.data.toList (k + 1) = 117
    · have qu : ((s[k + 1].toNat : Int) == 117) = true := by rw [byte_q s (k + 1) hk2, hu]; rfl
      have HE := Lib.hid (esr_c s k w hT hs hk2 h2 hu)
      clear hb h2 hu hT hk1
      go_enter Tryz.func78, Tryz.ntmps78
      go_wp2_with fail
      refine HE.out.mono ?_
      rintro e w1 hp
      unfold PcP at hp
      by_cases hz : (backL s.data.toList k).2 = 0
      · rw [if_pos hz] at hp
        obtain ⟨⟨t, j, rfl⟩, hb1⟩ := hp
        have HZ := Lib.hid hz
        have HB1 := Lib.hid hb1
        clear hz hb1
        unfold tup3
        go_wp2
        go_ret3
        exact pcp_no HZ.out ⟨⟨_, _, rfl⟩, HB1.out⟩
      · rw [if_neg hz] at hp
        obtain ⟨rfl, hb1⟩ := hp
        have HZ := Lib.hid hz
        have HB1 := Lib.hid hb1
        clear hz hb1
        unfold tup3
        go_wp2
        go_ret3
        exact pcp_yes rfl HZ.out ⟨rfl, HB1.out⟩
    · have qu : ((s[k + 1].toNat : Int) == 117) = false := by rw [byte_q s (k + 1) hk2, decide_eq_false hu]
      have HI := Lib.hid (fun W => Ch.idx_c ⟨#[34, 92, 98, 102, 110, 114, 116]⟩ (s[k + 1].toNat : Int) W)
      have hd : (ByteArray.mk #[34, 92, 98, 102, 110, 114, 116]).data.toList = behL := rfl
      have hl : k + 1 < s.data.toList.length := by rw [← size_l]; exact hk2
      have hbb : ((s[k + 1].toNat : Nat) : Int).toNat.toUInt8 = s.data.toList[k + 1] := by rw [← data_at hk2 hl]; exact byte_back _
      rw [hd, hbb] at HI
      have hat : at0 s.data.toList (k + 1) = nb s.data.toList[k + 1] := at0_get hl
      have hB1 : backL s.data.toList k = if 0 ≤ escI (nb s.data.toList[k + 1]) then ([UInt8.ofNat (escI (nb s.data.toList[k + 1])).toNat], 2) else ([], 0) := by
        unfold backL
        rw [if_neg (by omega), hat]
        by_cases g : 0 ≤ escI (nb s.data.toList[k + 1])
        · rw [if_pos g, if_pos g]
        · rw [if_neg g, if_neg g, if_pos (.inl (by rw [← hat]; exact hu))]
      have q47 : ((s[k + 1].toNat : Int) == 47) = decide (nb s.data.toList[k + 1] = 47) := by rw [byte_q s (k + 1) hk2, hat]
      rcases esc_idx s.data.toList[k + 1] with ⟨i, hi, hidx, hpos, hm⟩ | ⟨hneg, hcase⟩
      · rw [hidx] at HI
        rw [if_pos hpos] at hB1
        have HB := Lib.hid hB1
        have HM := Lib.hid (mea_sub i _ hm)
        clear hB1 hm hidx hpos q47 hat hbb hd hb hu h2 hT hk1
        have hi' : (i : Int) < 7 := by omega
        have hi0 : (0 : Int) ≤ (i : Int) := by omega
        go_enter Tryz.func78, Tryz.ntmps78
        go_wp2_with (go_at_call 85; refine (HI.out _).mono ?_; rintro e w' ⟨rfl, rfl⟩)
        go_ret3
        exact pcp_yes (n := 2) (by rw [HB.out]) (by decide) ⟨t3 (by rw [HB.out, HM.out]) rfl rfl, Below.refl _ _⟩
      · revert HI hneg
        generalize Lib.indexByte behL s.data.toList[k + 1] = z
        intro HI hneg
        by_cases h47 : nb s.data.toList[k + 1] = 47
        · have HB : Hid (backL s.data.toList k = ([47], 2)) := by
            show backL s.data.toList k = _
            rw [hB1, h47]; rfl
          rw [decide_eq_true h47] at q47
          clear hB1 hcase h47 hat hbb hd hb hu h2 hT hk1
          go_enter Tryz.func78, Tryz.ntmps78
          go_wp2_with (go_at_call 85; refine (HI.out _).mono ?_; rintro e w' ⟨rfl, rfl⟩)
          go_ret3
          exact pcp_yes (n := 2) (by rw [HB.out]) (by decide) ⟨t3 (by rw [HB.out]; rfl) rfl rfl, Below.refl _ _⟩
        · have HB : Hid (backL s.data.toList k = ([], 0)) := by
            show backL s.data.toList k = _
            rw [hB1, if_neg (by rcases hcase with g | g; exact absurd g h47; omega)]
          rw [decide_eq_false h47] at q47
          clear hB1 hcase h47 hat hbb hd hb hu h2 hT hk1
          go_enter Tryz.func78, Tryz.ntmps78
          go_wp2_with (go_at_call 85; refine (HI.out _).mono ?_; rintro e w' ⟨rfl, rfl⟩)
          go_ret3
          exact pcp_no (by rw [HB.out]) ⟨⟨_, _, rfl⟩, Below.refl _ _⟩
set_option maxRecDepth 100000 in
set_option maxHeartbeats 4000000 in
theorem piece_c (s : ByteArray) (k : Nat) (w : World) (hT : Ut.Tabs w) (hs : s.size ≤ 1000) (hk : k < s.size) :
    Calls Tryz.prog 70 #[.string s, .int .i64 (k : Int)] w (PcP k (pieceL s.data.toList k) w) := by
  have hk' : (k : Int) < (s.size : Int) := by omega
  by_cases h2 : at0 s.data.toList k = 92
  · have q : ((s[k].toNat : Int) == 92) = true := by rw [byte_q s k hk, h2]; rfl
    have HE := Lib.hid (escaped_c s k w hT hs hk h2)
    have hP : pieceL s.data.toList k = backL s.data.toList k := by unfold pieceL; rw [if_pos h2]
    rw [← hP] at HE
    clear h2 hT hP
    go_enter Tryz.func70, Tryz.ntmps70
    go_wp2_with fail
    refine HE.out.mono ?_
    rintro e w1 hp
    unfold PcP at hp
    by_cases hz : (pieceL s.data.toList k).2 = 0
    · rw [if_pos hz] at hp
      obtain ⟨⟨t, j, rfl⟩, hb1⟩ := hp
      have HZ := Lib.hid hz
      have HB1 := Lib.hid hb1
      clear hz hb1
      unfold tup3
      go_wp2
      go_ret3
      exact pcp_no HZ.out ⟨⟨_, _, rfl⟩, HB1.out⟩
    · rw [if_neg hz] at hp
      obtain ⟨rfl, hb1⟩ := hp
      have HZ := Lib.hid hz
      have HB1 := Lib.hid hb1
      clear hz hb1
      unfold tup3
      go_wp2
      go_ret3
      exact pcp_yes rfl HZ.out ⟨rfl, HB1.out⟩
  · have q : ((s[k].toNat : Int) == 92) = false := by rw [byte_q s k hk, decide_eq_false h2]
    have HR := Lib.hid (fun W => rowpln_c s k W hs (by omega))
    have h1 := endP_ge plnB s.data.toList k
    have h3 : endP plnB s.data.toList k ≤ s.size := by rw [size_l]; exact endP_le (by rw [← size_l]; omega)
    have hz : (s.extract k (endP plnB s.data.toList k)).size ≤ 1000 := by rw [ByteArray.size_extract]; omega
    have HV := Lib.hid (fun W hTW => valid_c (s.extract k (endP plnB s.data.toList k)) W hTW hz)
    rw [extract_cut] at HV
    have HP : Hid (pieceL s.data.toList k = if k < endP plnB s.data.toList k ∧ vldB (cutL s.data.toList k (endP plnB s.data.toList k)) = true then (cutL s.data.toList k (endP plnB s.data.toList k), endP plnB s.data.toList k - k) else ([], 0)) := by
      show pieceL s.data.toList k = _
      unfold pieceL; rw [if_neg h2]
    have HX := Lib.hid (extract_cut s k (endP plnB s.data.toList k))
    clear h2 hz
    revert HR h1 h3 HV HP HX
    generalize vldB (cutL s.data.toList k (endP plnB s.data.toList k)) = v
    generalize endP plnB s.data.toList k = to
    intro HR h1 h3 HV HP HX
    have HT := Lib.hid hT
    clear hT
    have h1' : (k : Int) ≤ (to : Int) := by omega
    have h3' : (to : Int) ≤ (s.size : Int) := by omega
    by_cases hlt : k < to
    · have hlt' : (k : Int) < (to : Int) := by omega
      have hd : decide ((k : Int) < (to : Int)) = true := by simpa using hlt
      go_enter Tryz.func70, Tryz.ntmps70
      go_wp2_with (go_at_call 72; refine (HR.out _).mono ?_; rintro e w' ⟨rfl, rfl⟩)
      go_region_held3 (fun _ => True) (first | exact trivial) (first | (go_at_call 80; refine (HV.out _ HT.out.drew).mono ?_; rintro e w3 ⟨rfl, hb3⟩; have HB3 := Lib.hid hb3; clear hb3))
      go_wp2
      go_ret3
      have hB : Below w.heap.size w w3 := (Below.refl _ _).drew.trans HB3.out
      cases v with
      | true => exact pcp_yes (n := to - k) (by rw [HP.out, if_pos ⟨hlt, rfl⟩]) (by omega) ⟨t3 (by rw [HP.out, if_pos ⟨hlt, rfl⟩]; exact mkS_of HX.out) (by omega) rfl, hB⟩
      | false => exact pcp_no (by rw [HP.out, if_neg (fun g => by cases g.2)]) ⟨⟨_, _, rfl⟩, hB⟩
    · have hd : decide ((k : Int) < (to : Int)) = false := by simp; omega
      go_enter Tryz.func70, Tryz.ntmps70
      go_wp2_with (go_at_call 72; refine (HR.out _).mono ?_; rintro e w' ⟨rfl, rfl⟩)
      go_quiet (fail)
      go_wp2
      go_ret3
      exact pcp_no (by rw [HP.out, if_neg (fun g => hlt g.1)]) ⟨⟨_, _, rfl⟩, below_drewN (Below.refl _ _) _⟩
end Go.Proofs.YtpgllcdcpdeicaaGreatDoor.Jt
