/- What Split makes of a target of parts and pairs: the plain part; no condition. -/
import Derived.Test.YtflhapnanhbcgaaDoorPcAwake
namespace Go.Proofs.YtflhapnanhbcgaaDoor.Pc
open Go.RowKit Jt
set_option linter.unusedSimpArgs false
set_option linter.unusedVariables false

/-- parts' texts, with a slash ahead of each -/
def pthL : List (List UInt8) → List UInt8
  | [] => []
  | p :: r => 47 :: (encL p ++ pthL r)
def prtL (x : PairL) : List UInt8 := encL x.1 ++ 61 :: encL x.2
/-- pairs' texts, with that byte ahead of the first -/
def qrsL (c : UInt8) : List PairL → List UInt8
  | [] => []
  | x :: r => c :: (prtL x ++ qrsL 38 r)
/-- a target -/
def tgtL (ps : List (List UInt8)) (l : List PairL) : List UInt8 := (if ps = [] then [47] else pthL ps) ++ qrsL 63 l
theorem enc_no (l : List UInt8) {c : UInt8} (h1 : plnB c = false) (h2 : c ≠ 37) : ¬ c ∈ encL l := fun hm => by
  rcases enc_mem l c hm with h | h
  · rw [h1] at h; cases h
  · exact h2 h
theorem pth_no {c : UInt8} (h1 : plnB c = false) (h2 : c ≠ 37) (h3 : c ≠ 47) : ∀ ps, ¬ c ∈ pthL ps
  | [], h => by cases h
  | p :: r, h => by
    rw [pthL] at h
    rcases List.mem_cons.1 h with g | g
    · exact h3 g
    · rcases List.mem_append.1 g with g | g
      · exact enc_no p h1 h2 g
      · exact pth_no h1 h2 h3 r g
theorem pth_cut : ∀ (p : List UInt8) (r : List (List UInt8)), Ch.cutL 47 (encL p ++ pthL r) = encL p :: r.map encL
  | p, [] => by
    rw [pthL, List.append_nil]
    exact Ch.cutL_none 47 _ (enc_no p (by decide +kernel) (by decide))
  | p, q :: r => by
    rw [pthL, Ch.cutL_at 47 _ _ (enc_no p (by decide +kernel) (by decide)), pth_cut q r]; rfl
theorem dcA_map : ∀ ps : List (List UInt8), dcA (ps.map encL) = some ps
  | [] => rfl
  | p :: r => by rw [List.map_cons, dcA, dec_enc_all, dcA_map r]; rfl
theorem prt_no38 (x : PairL) : ¬ 38 ∈ prtL x := fun h => by
  unfold prtL at h
  rcases List.mem_append.1 h with g | g
  · exact enc_no _ (by decide +kernel) (by decide) g
  · rcases List.mem_cons.1 g with g | g
    · exact absurd g (by decide)
    · exact enc_no _ (by decide +kernel) (by decide) g
theorem prt_pair (x : PairL) : pairL (prtL x) = some x := by
  unfold pairL prtL
  rw [cutP_at (enc_no _ (by decide +kernel) (by decide)), dec_enc_all, dec_enc_all]
theorem qrs_cut : ∀ (x : PairL) (r : List PairL), Ch.cutL 38 (prtL x ++ qrsL 38 r) = prtL x :: r.map prtL
  | x, [] => by
    rw [qrsL, List.append_nil]
    exact Ch.cutL_none 38 _ (prt_no38 x)
  | x, y :: r => by
    rw [qrsL, Ch.cutL_at 38 _ _ (prt_no38 x), qrs_cut y r]; rfl
theorem qryF_map : ∀ l : List PairL, qryF (l.map prtL) = some l
  | [] => rfl
  | x :: r => by
    have hne : prtL x ≠ [] := by unfold prtL; simp
    rw [List.map_cons, qryF, if_neg hne, prt_pair, qryF_map r]; rfl
theorem qry_back (l : List PairL) : qryL ((qrsL 63 l).drop 1) = some l := by
  unfold qryL
  cases l with
  | nil => rfl
  | cons x r =>
    rw [qrsL]
    show qryF (Ch.cutL 38 (prtL x ++ qrsL 38 r)) = _
    rw [qrs_cut]
    exact qryF_map (x :: r)
/-- a target is split into its parts and pairs again -/
theorem spl_back (ps : List (List UInt8)) (l : List PairL) : splL (tgtL ps l) = some (if ps = [] then [[]] else ps, l) := by
  have hq : ∀ t, ¬ 63 ∈ t → cutP 63 (t ++ qrsL 63 l) = (t, (qrsL 63 l).drop 1) := fun t ht => by
    cases l with
    | nil => rw [qrsL, List.append_nil, cutP_no ht]; rfl
    | cons x r => rw [qrsL, cutP_at ht]; rfl
  unfold splL tgtL
  cases ps with
  | nil =>
    rw [if_pos rfl, if_pos rfl, if_pos (by rfl)]
    show splR (qrsL 63 l) = _
    unfold splR
    have h := hq [] (by simp)
    rw [List.nil_append] at h
    rw [h, qry_back]; rfl
  | cons p r =>
    have e1 : (if p :: r = [] then [47] else pthL (p :: r)) = pthL (p :: r) := if_neg (by simp)
    have e2 : (if p :: r = [] then [[]] else p :: r) = p :: r := if_neg (by simp)
    rw [e1, e2, pthL, if_pos (by rfl)]
    show splR (encL p ++ pthL r ++ qrsL 63 l) = _
    unfold splR
    have hn : ¬ 63 ∈ encL p ++ pthL r := fun h => by
      rcases List.mem_append.1 h with g | g
      · exact enc_no p (by decide +kernel) (by decide) g
      · exact pth_no (by decide +kernel) (by decide) (by decide) r g
    rw [hq _ hn]
    show spl2 (dcA (Ch.cutL 47 (encL p ++ pthL r))) (qryL ((qrsL 63 l).drop 1)) = _
    rw [pth_cut, ← List.map_cons, dcA_map, qry_back]; rfl
/-- the values of a name -/
def fndL (l : List PairL) (n : List UInt8) : List (List UInt8) := (l.filter fun x => decide (x.1 = n)).map (·.2)
theorem fnd_snoc (l : List PairL) (x : PairL) (n : List UInt8) : fndL (l ++ [x]) n = fndL l n ++ (if x.1 = n then [x.2] else []) := by
  unfold fndL
  rw [List.filter_append, List.map_append]
  by_cases h : x.1 = n <;> simp [h]
theorem pth_snoc (ps : List (List UInt8)) (p : List UInt8) : pthL (ps ++ [p]) = pthL ps ++ 47 :: encL p := by
  induction ps with
  | nil => simp [pthL]
  | cons q r ih => rw [List.cons_append, pthL, pthL, ih]; simp
theorem qrs_snoc (c : UInt8) (l : List PairL) (x : PairL) : qrsL c (l ++ [x]) = qrsL c l ++ (if l = [] then c else 38) :: prtL x := by
  induction l generalizing c with
  | nil => simp [qrsL]
  | cons y r ih =>
    rw [List.cons_append, qrsL, qrsL, ih]
    cases r with
    | nil => simp
    | cons z t => simp
end Go.Proofs.YtflhapnanhbcgaaDoor.Pc
