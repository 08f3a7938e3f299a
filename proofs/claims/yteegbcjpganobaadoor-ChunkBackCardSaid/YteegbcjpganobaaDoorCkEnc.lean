/- A body in chunks as text, and what the machine of a chunked body makes of it with whatever stands behind: plain lists. -/
import Derived.Test.YteegbcjpganobaaDoorCkEnd
import Derived.Test.YteegbcjpganobaaDoorCkPar
import Derived.Test.YteegbcjpganobaaDoorNuPuts
namespace Go.Proofs.YteegbcjpganobaaDoor.Hd
open Go.RowKit Ch
set_option linter.unusedSimpArgs false
set_option linter.unusedVariables false

def crlf : List UInt8 := [13, 10]
/-- a body in chunks of n bytes -/
def encF : Nat → Nat → List UInt8 → List UInt8
  | 0, _, _ => []
  | f + 1, n, l => if l = [] then [48, 13, 10, 13, 10] else Nu.hexL (min n l.length) ++ 13 :: 10 :: (l.take n ++ 13 :: 10 :: encF f n (l.drop n))
theorem encF_nil (f n : Nat) : encF (f + 1) n [] = [48, 13, 10, 13, 10] := by unfold encF; rw [if_pos rfl]
theorem encF_cons {f n : Nat} {l : List UInt8} (h : l ≠ []) : encF (f + 1) n l = Nu.hexL (min n l.length) ++ 13 :: 10 :: (l.take n ++ 13 :: 10 :: encF f n (l.drop n)) := by
  show (if l = [] then _ else _) = _
  rw [if_neg h]
theorem encF_fuel : ∀ (f g n : Nat) (l : List UInt8), 1 ≤ n → l.length < f → l.length < g → encF f n l = encF g n l
  | 0, g, n, l, _, h, _ => absurd h (Nat.not_lt_zero _)
  | f + 1, 0, n, l, _, _, h => absurd h (Nat.not_lt_zero _)
  | f + 1, g + 1, n, l, hn, h1, h2 => by
    by_cases h : l = []
    · subst h; rw [encF_nil, encF_nil]
    · have hl : 0 < l.length := List.length_pos_iff.2 h
      rw [encF_cons h, encF_cons h, encF_fuel f g n (l.drop n) hn (by rw [List.length_drop]; omega) (by rw [List.length_drop]; omega)]
def encC (n : Nat) (l : List UInt8) : List UInt8 := encF (l.length + 1) n l
theorem encC_nil (n : Nat) : encC n [] = [48, 13, 10, 13, 10] := encF_nil _ _
theorem encC_cons {n : Nat} {l : List UInt8} (hn : 1 ≤ n) (h : l ≠ []) : encC n l = Nu.hexL (min n l.length) ++ 13 :: 10 :: (l.take n ++ 13 :: 10 :: encC n (l.drop n)) := by
  have hl : 0 < l.length := List.length_pos_iff.2 h
  unfold encC
  rw [encF_cons h, encF_fuel l.length ((l.drop n).length + 1) n (l.drop n) hn (by rw [List.length_drop]; omega) (by omega)]
/-- sizes up to five hundred, as they are written -/
theorem hex_small : ∀ z : Fin 501, (Nu.hexL z.val).all (fun c => decide (c ≠ 13) && decide (c ≠ 59)) = true ∧ (Nu.hexL z.val).length ≤ 3 ∧ Nu.rdE 16 2147483647 (Nu.hexL z.val) = 0 ∧ Nu.rdN 16 2147483647 (Nu.hexL z.val) = (z.val : Int) := by decide +kernel
theorem hex_ok {z : Nat} (h : z ≤ 500) : (∀ c ∈ Nu.hexL z, c ≠ 13 ∧ c ≠ 59) ∧ (Nu.hexL z).length ≤ 3 ∧ Nu.rdE 16 2147483647 (Nu.hexL z) = 0 ∧ Nu.rdN 16 2147483647 (Nu.hexL z) = (z : Int) := by
  obtain ⟨h1, h2, h3, h4⟩ := hex_small ⟨z, by omega⟩
  refine ⟨fun c hc => ?_, h2, h3, h4⟩
  have := List.all_eq_true.1 h1 c hc
  simpa using this
theorem szL_hex {z : Nat} (h : z ≤ 500) (most : Int) : szL (Nu.hexL z) most = if most < (z : Int) then (0, 413) else ((z : Int), 0) := by
  obtain ⟨h1, _, h3, h4⟩ := hex_ok h
  have h59 : ¬ (59 : UInt8) ∈ Nu.hexL z := fun hm => (h1 _ hm).2 rfl
  have hd : szD (Nu.hexL z) = Nu.hexL z := by unfold szD; rw [if_neg h59, cutP_no h59]
  have hv : allU valU (cutP 59 (Nu.hexL z)).2 = true := by rw [cutP_no h59]; rfl
  unfold szL
  rw [hd, hv, h3, h4, if_neg (by simp)]
  by_cases hm : most < (z : Int)
  · rw [if_pos (.inr hm), if_pos hm]
  · rw [if_neg (by simp [hm]), if_neg hm]
theorem end_at {p r : List UInt8} (h : ∀ c ∈ p, c ≠ 13) : endL (p ++ 13 :: 10 :: r) = some p.length := by
  rw [end_iff]
  refine ⟨⟨by simp, by rw [List.getElem?_append_right (by omega)]; simp⟩, fun i hi hx => ?_⟩
  have := hx.1
  rw [List.getElem?_append_left hi, List.getElem?_eq_getElem hi] at this
  injection this with this
  exact h _ (List.getElem_mem hi) this
theorem nx_at {L p r : List UInt8} {k : Nat} {a lg : Int} (hd : L.drop k = p ++ 13 :: 10 :: r) (h : ∀ c ∈ p, c ≠ 13) (ha : (p.length : Int) ≤ a) : nxE L k a lg = .ok p.length := by
  unfold nxE
  rw [hd, end_at h]
  simp only
  rw [if_neg (by omega)]
theorem drop_by {L p r : List UInt8} {k : Nat} (hd : L.drop k = p ++ r) : L.drop (k + p.length) = r := by rw [← List.drop_drop, hd, List.drop_left]
theorem mach_go {L : List UInt8} {a b c : Int} {F : Nat} {x : MS} (h : x.kd < 4) : mach L a b c (F + 1) x = mach L a b c F (stp L a b c x) := by
  show (if 4 ≤ x.kd then x else _) = _
  rw [if_neg (by omega)]
theorem stp0_big {L p r : List UInt8} {a b c : Int} {x : MS} {z : Nat} (hk : x.kd = 0) (hz : z ≤ 500) (hd : L.drop x.k = Nu.hexL z ++ 13 :: 10 :: r) (ha : 16 ≤ a) (hc : c - (x.bd.length : Int) < (z : Int)) : (stp L a b c x).kd = 4 ∧ (stp L a b c x).st = 413 := by
  obtain ⟨h1, h2, _, _⟩ := hex_ok hz
  have hn := nx_at (a := a) (lg := 400) hd (fun c hc => (h1 c hc).1) (by omega)
  have ht : (L.drop x.k).take (Nu.hexL z).length = Nu.hexL z := by rw [hd, List.take_left]
  unfold stp
  rw [hk]
  simp only [hn, ht]
  rw [szL_hex hz, if_pos hc]
  simp
theorem stp0_ok {L r : List UInt8} {a b c : Int} {x : MS} {z : Nat} (hk : x.kd = 0) (hz : z ≤ 500) (hz0 : z ≠ 0) (hd : L.drop x.k = Nu.hexL z ++ 13 :: 10 :: r) (ha : 16 ≤ a) (hc : ¬ c - (x.bd.length : Int) < (z : Int)) : stp L a b c x = { x with kd := 1, k := x.k + ((Nu.hexL z).length + 2), sz := (z : Int) } := by
  obtain ⟨h1, h2, _, _⟩ := hex_ok hz
  have hn := nx_at (a := a) (lg := 400) hd (fun c hc => (h1 c hc).1) (by omega)
  have ht : (L.drop x.k).take (Nu.hexL z).length = Nu.hexL z := by rw [hd, List.take_left]
  unfold stp
  rw [hk]
  simp only [hn, ht]
  rw [szL_hex hz, if_neg hc]
  simp [hz0]
theorem stp0_end {L r : List UInt8} {a b c : Int} {x : MS} (hk : x.kd = 0) (hd : L.drop x.k = [48] ++ 13 :: 10 :: r) (ha : 16 ≤ a) (hc : (x.bd.length : Int) ≤ c) : stp L a b c x = { x with kd := 3, k := x.k + 3 } := by
  have h0 : Nu.hexL 0 = [48] := by decide
  have hd' : L.drop x.k = Nu.hexL 0 ++ 13 :: 10 :: r := by rw [h0]; exact hd
  obtain ⟨h1, h2, _, _⟩ := hex_ok (z := 0) (by omega)
  have hn := nx_at (a := a) (lg := 400) hd' (fun c hc => (h1 c hc).1) (by omega)
  have ht : (L.drop x.k).take (Nu.hexL 0).length = Nu.hexL 0 := by rw [hd', List.take_left]
  have hs : szL (Nu.hexL 0) (c - (x.bd.length : Int)) = (0, 0) := by rw [szL_hex (by omega), if_neg (by omega)]; rfl
  unfold stp
  rw [hk]
  simp only [hn, ht, hs]
  simp [h0]
theorem stp1_ok {L p r : List UInt8} {a b c : Int} {x : MS} (hk : x.kd = 1) (hd : L.drop x.k = p ++ r) (hz : x.sz = (p.length : Int)) (hp : 0 < p.length) : stp L a b c x = { x with kd := 2, k := x.k + p.length, bd := x.bd ++ p } := by
  have hl := congrArg List.length hd
  rw [List.length_drop, List.length_append] at hl
  unfold stp
  rw [hk]
  simp only
  rw [hz]
  rw [if_neg (by omega), hd]
  simp
theorem stp2_ok {L r : List UInt8} {a b c : Int} {x : MS} (hk : x.kd = 2) (hd : L.drop x.k = 13 :: 10 :: r) : stp L a b c x = { x with kd := 0, k := x.k + 2 } := by
  unfold stp
  rw [hk]
  simp only [hd]
  rw [if_pos (by unfold Lib.hasPrefix; simp)]
theorem stp3_end {L r : List UInt8} {a b c : Int} {x : MS} (hk : x.kd = 3) (hd : L.drop x.k = 13 :: 10 :: r) (ha : 16 ≤ a) : stp L a b c x = { x with kd := 4, k := x.k + 2 } := by
  have hn := nx_at (p := []) (a := a) (lg := 431) hd (fun c hc => by cases hc) (by simp; omega)
  unfold stp
  rw [hk]
  simp only [hn]
  simp
/-- what is made of a body in chunks -/
theorem mach_enc (L more : List UInt8) (a b c : Int) (n : Nat) (hn : 1 ≤ n) (ha : 16 ≤ a) : ∀ (f : Nat) (l : List UInt8) (x : MS) (F : Nat), l.length < f → l.length ≤ 500 → x.kd = 0 → x.st = 0 → L.drop x.k = encF f n l ++ more → (encF f n l).length ≤ F → (x.bd.length : Int) ≤ c →
    (((x.bd.length : Int) + (l.length : Int) ≤ c → (mach L a b c F x).st = 0 ∧ (mach L a b c F x).bd = x.bd ++ l ∧ (mach L a b c F x).k = x.k + (encF f n l).length) ∧ (¬ (x.bd.length : Int) + (l.length : Int) ≤ c → (mach L a b c F x).st = 413)) := by
  intro f
  induction f with
  | zero => intro l x F h; exact absurd h (Nat.not_lt_zero _)
  | succ f ih =>
    intro l x F hf hl hk hst hd hF hc
    by_cases h : l = []
    · subst h
      rw [encF_nil] at hd hF ⊢
      have hF' : 5 ≤ F := hF
      obtain ⟨G, rfl⟩ : ∃ G, F = G + 2 := ⟨F - 2, by omega⟩
      have s1 := stp0_end (b := b) hk (r := [13, 10] ++ more) (by rw [hd]; rfl) ha hc
      have hd3 : L.drop (x.k + 3) = 13 :: 10 :: more := by
        have := drop_by (p := [48, 13, 10]) (r := 13 :: 10 :: more) (L := L) (k := x.k) (by rw [hd]; rfl)
        exact this
      have s2 := stp3_end (L := L) (b := b) (c := c) (x := { x with kd := 3, k := x.k + 3 }) rfl hd3 ha
      rw [mach_go (by omega), s1, mach_go (by show 3 < 4; omega), s2, mach_end (by show 4 ≤ 4; omega)]
      refine ⟨fun _ => ⟨hst, by simp, by simp⟩, fun hh => absurd (by simpa using hc) hh⟩
    · have hlp : 0 < l.length := List.length_pos_iff.2 h
      rw [encF_cons h] at hd hF ⊢
      rw [List.append_assoc] at hd
      have hd1 : L.drop x.k = Nu.hexL (min n l.length) ++ 13 :: 10 :: (l.take n ++ 13 :: 10 :: encF f n (l.drop n) ++ more) := hd
      have hz5 : min n l.length ≤ 500 := by omega
      have hz0 : min n l.length ≠ 0 := by omega
      have htl : (l.take n).length = min n l.length := List.length_take
      simp only [List.length_append, List.length_cons] at hF
      have hp1 := Nu.hex_pos (min n l.length)
      by_cases hbig : c - (x.bd.length : Int) < ((min n l.length : Nat) : Int)
      · obtain ⟨G, rfl⟩ : ∃ G, F = G + 1 := ⟨F - 1, by omega⟩
        have s0 := stp0_big (p := []) (b := b) hk hz5 hd1 ha hbig
        rw [mach_go (by omega), mach_end (by omega)]
        refine ⟨fun hh => absurd hh ?_, fun _ => s0.2⟩
        omega
      · obtain ⟨G, rfl⟩ : ∃ G, F = G + 3 := ⟨F - 3, by omega⟩
        have s0 := stp0_ok (b := b) hk hz5 hz0 hd1 ha hbig
        have e1 : L.drop (x.k + ((Nu.hexL (min n l.length)).length + 2)) = l.take n ++ (13 :: 10 :: (encF f n (l.drop n) ++ more)) := by
          have := drop_by (p := Nu.hexL (min n l.length) ++ [13, 10]) (r := l.take n ++ (13 :: 10 :: (encF f n (l.drop n) ++ more))) (L := L) (k := x.k) (by rw [hd1]; simp)
          rw [List.length_append] at this
          exact this
        have s1 := stp1_ok (L := L) (a := a) (b := b) (c := c) (x := { x with kd := 1, k := x.k + ((Nu.hexL (min n l.length)).length + 2), sz := ((min n l.length : Nat) : Int) }) rfl e1 (by show ((min n l.length : Nat) : Int) = _; rw [htl]) (by omega)
        have e2 : L.drop (x.k + ((Nu.hexL (min n l.length)).length + 2) + (l.take n).length) = 13 :: 10 :: (encF f n (l.drop n) ++ more) := drop_by e1
        have s2 := stp2_ok (L := L) (a := a) (b := b) (c := c) (x := { x with kd := 2, k := x.k + ((Nu.hexL (min n l.length)).length + 2) + (l.take n).length, sz := ((min n l.length : Nat) : Int), bd := x.bd ++ l.take n }) rfl e2
        have e3 : L.drop (x.k + ((Nu.hexL (min n l.length)).length + 2) + (l.take n).length + 2) = encF f n (l.drop n) ++ more := drop_by (p := [13, 10]) (by rw [e2]; rfl)
        rw [mach_go (by omega), s0, mach_go (by show 1 < 4; omega), s1, mach_go (by show 2 < 4; omega), s2]
        have hdl : (l.drop n).length = l.length - n := List.length_drop
        have := ih (l.drop n) { x with kd := 0, k := x.k + ((Nu.hexL (min n l.length)).length + 2) + (l.take n).length + 2, sz := ((min n l.length : Nat) : Int), bd := x.bd ++ l.take n } G (by omega) (by omega) rfl hst e3 (by omega) (by show ((x.bd ++ l.take n).length : Int) ≤ c; rw [List.length_append, htl]; omega)
        obtain ⟨i1, i2⟩ := this
        have hsum : ((x.bd ++ l.take n).length : Int) + ((l.drop n).length : Int) = (x.bd.length : Int) + (l.length : Int) := by rw [List.length_append, htl, hdl]; omega
        refine ⟨fun hh => ?_, fun hh => i2 (by show ¬ ((x.bd ++ l.take n).length : Int) + _ ≤ c; omega)⟩
        obtain ⟨j1, j2, j3⟩ := i1 (by show ((x.bd ++ l.take n).length : Int) + _ ≤ c; omega)
        refine ⟨j1, ?_, ?_⟩
        · rw [j2]
          show x.bd ++ l.take n ++ l.drop n = _
          rw [List.append_assoc, List.take_append_drop]
        · rw [j3]
          show x.k + ((Nu.hexL (min n l.length)).length + 2) + (l.take n).length + 2 + (encF f n (l.drop n)).length = _
          simp only [List.length_append, List.length_cons]
          omega
theorem fin_enc (l more : List UInt8) (a b c : Int) (n : Nat) (hn : 1 ≤ n) (ha : 16 ≤ a) (hc : 0 ≤ c) (hl : l.length ≤ 500) :
    ((l.length : Int) ≤ c → (finL (encC n l ++ more) a b c).st = 0 ∧ (finL (encC n l ++ more) a b c).bd = l ∧ (finL (encC n l ++ more) a b c).k = (encC n l).length) ∧ (¬ (l.length : Int) ≤ c → (finL (encC n l ++ more) a b c).st = 413) := by
  have := mach_enc (encC n l ++ more) more a b c n hn ha (l.length + 1) l x0 ((encC n l ++ more).length + 1) (by omega) hl rfl rfl rfl (by show (encC n l).length ≤ _; rw [List.length_append]; omega) (by show ((0 : Nat) : Int) ≤ c; omega)
  obtain ⟨h1, h2⟩ := this
  refine ⟨fun hh => ?_, fun hh => h2 (by show ¬ ((0 : Nat) : Int) + _ ≤ c; omega)⟩
  obtain ⟨j1, j2, j3⟩ := h1 (by show ((0 : Nat) : Int) + _ ≤ c; omega)
  refine ⟨j1, ?_, ?_⟩
  · show (mach _ _ _ _ _ _).bd = _; rw [j2]; rfl
  · show (mach _ _ _ _ _ _).k = _; rw [j3]; show 0 + _ = _; rw [Nat.zero_add]; rfl
theorem enc_len : ∀ (f n : Nat) (l : List UInt8), 1 ≤ n → l.length ≤ 500 → (encF f n l).length ≤ 8 * l.length + 5
  | 0, n, l, _, _ => by simp [encF]
  | f + 1, n, l, hn, hl => by
    by_cases h : l = []
    · subst h; rw [encF_nil]; simp
    · have hlp : 0 < l.length := List.length_pos_iff.2 h
      rw [encF_cons h]
      have ih := enc_len f n (l.drop n) hn (by rw [List.length_drop]; omega)
      have h3 := (hex_ok (z := min n l.length) (by omega)).2.1
      rw [List.length_drop] at ih
      simp only [List.length_append, List.length_cons, List.length_take]
      omega
end Go.Proofs.YteegbcjpganobaaDoor.Hd
