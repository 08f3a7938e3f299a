/- Signs by sixteen, plainly: what a text with signs means, how a text is written with them, and that the one takes back the other; no condition. -/
import Derived.Test.YtflhapnanhbcgaaDoorJtBase
namespace Go.Proofs.YtflhapnanhbcgaaDoor.Pc
open Go.RowKit
set_option linter.unusedSimpArgs false
set_option linter.unusedVariables false

/-- the byte of two digits by sixteen -/
def twoB (a b : UInt8) : UInt8 := UInt8.ofNat (Nu.val 16 [a, b]).toNat
def okTwo (a b : UInt8) : Bool := [a, b].all (Nu.okD 16)
/-- the byte of the sign that a row begins with -/
def sgnL : List UInt8 → Option UInt8
  | _ :: a :: b :: _ => if okTwo a b = true then some (twoB a b) else none
  | _ => none
def plB (plus : Bool) (c : UInt8) : UInt8 := if c = 43 ∧ plus = true then 32 else c
/-- what a text with signs means -/
def decF (plus : Bool) : Nat → List UInt8 → Option (List UInt8)
  | 0, _ => none
  | _ + 1, [] => some []
  | f + 1, c :: r => if c = 37 then (match sgnL (c :: r) with | some x => (decF plus f (r.drop 2)).map (x :: ·) | none => none) else (decF plus f r).map (plB plus c :: ·)
theorem decF_more (plus : Bool) : ∀ (f g : Nat) (l : List UInt8), l.length < f → l.length < g → decF plus f l = decF plus g l
  | 0, _, _, h, _ => by omega
  | _ + 1, 0, _, _, h => by omega
  | f + 1, g + 1, [], _, _ => rfl
  | f + 1, g + 1, c :: r, hf, hg => by
    rw [List.length_cons] at hf hg
    have h1 := decF_more plus f g r (by omega) (by omega)
    have h2 := decF_more plus f g (r.drop 2) (by rw [List.length_drop]; omega) (by rw [List.length_drop]; omega)
    simp only [decF, h1, h2]
def decL (plus : Bool) (l : List UInt8) : Option (List UInt8) := decF plus (l.length + 1) l
theorem dec_nil (plus : Bool) : decL plus [] = some [] := rfl
theorem dec_one (plus : Bool) {c : UInt8} (r : List UInt8) (h : c ≠ 37) : decL plus (c :: r) = (decL plus r).map (plB plus c :: ·) := by
  unfold decL
  rw [List.length_cons, decF, if_neg h]
theorem dec_sgn (plus : Bool) {c x : UInt8} (r : List UInt8) (h : c = 37) (hx : sgnL (c :: r) = some x) : decL plus (c :: r) = (decL plus (r.drop 2)).map (x :: ·) := by
  unfold decL
  rw [List.length_cons, decF, if_pos h, hx, decF_more plus (r.length + 1) ((r.drop 2).length + 1) _ (by rw [List.length_drop]; omega) (by omega)]
theorem dec_bad (plus : Bool) {c : UInt8} (r : List UInt8) (h : c = 37) (hx : sgnL (c :: r) = none) : decL plus (c :: r) = none := by
  unfold decL
  rw [List.length_cons, decF, if_pos h, hx]
/-- how many bytes a text has at most: no more than it had -/
theorem dec_len (plus : Bool) : ∀ (f : Nat) (l d : List UInt8), decF plus f l = some d → d.length ≤ l.length
  | 0, _, _, h => by simp [decF] at h
  | f + 1, [], d, h => by simp [decF] at h; subst h; simp
  | f + 1, c :: r, d, h => by
    rw [decF] at h
    split at h
    · split at h
      · obtain ⟨y, hy, rfl⟩ := Option.map_eq_some_iff.1 h
        have := dec_len plus f _ _ hy
        rw [List.length_drop] at this
        simp; omega
      · cases h
    · obtain ⟨y, hy, rfl⟩ := Option.map_eq_some_iff.1 h
      have := dec_len plus f _ _ hy
      simp; omega
theorem decL_len {plus : Bool} {l d : List UInt8} (h : decL plus l = some d) : d.length ≤ l.length := dec_len plus _ _ _ h

/-- does a byte stand for itself? -/
def plnB (c : UInt8) : Bool := Ch.letB (c.toNat : Int) || Ch.digB (c.toNat : Int) || decide (c = 45 ∨ c = 46 ∨ c = 95 ∨ c = 126)
def hexU : List UInt8 := [48, 49, 50, 51, 52, 53, 54, 55, 56, 57, 65, 66, 67, 68, 69, 70]
def hxU (n : Nat) : UInt8 := hexU.getD n 0
def encB (c : UInt8) : List UInt8 := if plnB c = true then [c] else [37, hxU (c.toNat / 16), hxU (c.toNat % 16)]
def encL (l : List UInt8) : List UInt8 := l.flatMap encB
theorem enc_nil : encL [] = [] := rfl
theorem enc_cons (c : UInt8) (l : List UInt8) : encL (c :: l) = encB c ++ encL l := by unfold encL; rw [List.flatMap_cons]
theorem enc_app (a b : List UInt8) : encL (a ++ b) = encL a ++ encL b := by unfold encL; rw [List.flatMap_append]
theorem enc_snoc {l : List UInt8} {k : Nat} (h : k < l.length) : encL (l.take (k + 1)) = encL (l.take k) ++ encB l[k] := by
  rw [List.take_succ_eq_append_getElem h, enc_app, enc_cons]; simp [enc_nil]
theorem encB_len (c : UInt8) : (encB c).length ≤ 3 := by unfold encB; split <;> simp
theorem enc_len : ∀ l : List UInt8, (encL l).length ≤ 3 * l.length
  | [] => by simp [encL]
  | c :: l => by rw [enc_cons, List.length_append, List.length_cons]; have := encB_len c; have := enc_len l; omega
theorem hx_all : ∀ n : Fin 256, okTwo (hxU (n.val / 16)) (hxU (n.val % 16)) = true ∧ twoB (hxU (n.val / 16)) (hxU (n.val % 16)) = UInt8.ofNat n.val := by decide +kernel
theorem pln_all : ∀ n : Fin 256, plnB (UInt8.ofNat n.val) = true → UInt8.ofNat n.val ≠ 37 ∧ UInt8.ofNat n.val ≠ 43 := by decide +kernel
theorem pln_no (c : UInt8) (h : plnB c = true) : c ≠ 37 ∧ c ≠ 43 := by
  have := pln_all ⟨c.toNat, c.toNat_lt⟩
  simp only [UInt8.ofNat_toNat] at this
  exact this h
/-- none of these bytes is written by encB but as itself -/
theorem enc_bytes : ∀ n : Fin 256, (encB (UInt8.ofNat n.val)).all (fun x => plnB x || decide (x = 37)) = true := by decide +kernel
theorem enc_mem (l : List UInt8) (x : UInt8) (h : x ∈ encL l) : plnB x = true ∨ x = 37 := by
  unfold encL at h
  obtain ⟨c, _, hx⟩ := List.mem_flatMap.1 h
  have := enc_bytes ⟨c.toNat, c.toNat_lt⟩
  simp only [UInt8.ofNat_toNat] at this
  have := List.all_eq_true.1 this x hx
  simpa using this
theorem dec_enc (plus : Bool) (r : List UInt8) : ∀ l : List UInt8, decL plus (encL l ++ r) = (decL plus r).map (l ++ ·)
  | [] => by rw [enc_nil]; simp
  | c :: l => by
    rw [enc_cons, List.append_assoc]
    have ih := dec_enc plus r l
    unfold encB
    split
    · rename_i h
      obtain ⟨h1, h2⟩ := pln_no c h
      show decL plus (c :: (encL l ++ r)) = _
      rw [dec_one plus _ h1, ih, show plB plus c = c by unfold plB; rw [if_neg (fun g => h2 g.1)]]
      cases decL plus r <;> rfl
    · show decL plus (37 :: ([hxU (c.toNat / 16), hxU (c.toNat % 16)] ++ (encL l ++ r))) = _
      have hh := hx_all ⟨c.toNat, c.toNat_lt⟩
      simp only [UInt8.ofNat_toNat] at hh
      rw [dec_sgn plus _ rfl (x := c) (by simp only [sgnL, List.cons_append]; rw [if_pos hh.1, hh.2])]
      show (decL plus (encL l ++ r)).map _ = _
      rw [ih]
      cases decL plus r <;> rfl
theorem dec_enc_all (plus : Bool) (l : List UInt8) : decL plus (encL l) = some l := by
  have := dec_enc plus [] l
  rw [List.append_nil, dec_nil] at this
  simpa using this
end Go.Proofs.YtflhapnanhbcgaaDoor.Pc
