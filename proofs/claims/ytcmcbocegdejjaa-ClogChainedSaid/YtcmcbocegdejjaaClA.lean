/- Entries as lists, plain: those above a revision, how many count, the floor behind an addition, rows of their cells; no condition. -/
import Derived.Test.YtcmcbocegdejjaaRows
import Derived.WalkKit
import Derived.WalkSpells
import Derived.Lib.Hide
import Derived.Laws.AppendOwn
import Derived.OwnWalk
namespace Go.Proofs.Ytcmcbocegdejjaa.Cl
open Go.RowKit
set_option linter.unusedSimpArgs false
set_option linter.unusedVariables false

/-- a change: key, value, gone? -/
abbrev Chg := ByteArray × ByteArray × Bool
/-- an entry -/
abbrev Ent := Int × Chg
def encC (x : Chg) : List Value := [.string x.1, .string x.2.1, .bool x.2.2]
def aggC (x : Chg) : Value := .agg #[.string x.1, .string x.2.1, .bool x.2.2]
def encE (x : Ent) : List Value := [.int .i64 x.1, .string x.2.1, .string x.2.2.1, .bool x.2.2.2]
def aggE (x : Ent) : Value := .agg #[.int .i64 x.1, .string x.2.1, .string x.2.2.1, .bool x.2.2.2]
def eC (l : List Ent) : List Value := l.flatMap encE
def cC (l : List Chg) : List Value := l.flatMap encC
theorem eC_len (l : List Ent) : (eC l).length = l.length * 4 := by
  induction l with
  | nil => rfl
  | cons x r ih => rw [show eC (x :: r) = encE x ++ eC r from rfl, List.length_append, ih]; simp [encE]; omega
theorem cC_len (l : List Chg) : (cC l).length = l.length * 3 := by
  induction l with
  | nil => rfl
  | cons x r ih => rw [show cC (x :: r) = encC x ++ cC r from rfl, List.length_append, ih]; simp [encC]; omega
theorem eC_at : ∀ (l : List Ent) (k : Nat) (hk : k < l.length), (eC l)[k * 4]? = some (.int .i64 l[k].1) ∧ (eC l)[k * 4 + 1]? = some (.string l[k].2.1) ∧ (eC l)[k * 4 + 2]? = some (.string l[k].2.2.1) ∧ (eC l)[k * 4 + 3]? = some (.bool l[k].2.2.2)
  | [], k, hk => by simp at hk
  | x :: l, 0, _ => ⟨rfl, rfl, rfl, rfl⟩
  | x :: l, k + 1, hk => by
    have ih := eC_at l k (by simpa using hk)
    have e : eC (x :: l) = .int .i64 x.1 :: .string x.2.1 :: .string x.2.2.1 :: .bool x.2.2.2 :: eC l := rfl
    rw [e, show (k + 1) * 4 = k * 4 + 4 by omega]
    exact ih
theorem cC_at : ∀ (l : List Chg) (k : Nat) (hk : k < l.length), (cC l)[k * 3]? = some (.string l[k].1) ∧ (cC l)[k * 3 + 1]? = some (.string l[k].2.1) ∧ (cC l)[k * 3 + 2]? = some (.bool l[k].2.2)
  | [], k, hk => by simp at hk
  | x :: l, 0, _ => ⟨rfl, rfl, rfl⟩
  | x :: l, k + 1, hk => by
    have ih := cC_at l k (by simpa using hk)
    have e : cC (x :: l) = .string x.1 :: .string x.2.1 :: .bool x.2.2 :: cC l := rfl
    rw [e, show (k + 1) * 3 = k * 3 + 3 by omega]
    exact ih
theorem eC_app (a b : List Ent) : eC (a ++ b) = eC a ++ eC b := by unfold eC; rw [List.flatMap_append]
theorem eC_snoc (l : List Ent) (x : Ent) : eC (l ++ [x]) = eC l ++ encE x := by rw [eC_app]; simp [eC]
theorem cC_snoc (l : List Chg) (x : Chg) : cC (l ++ [x]) = cC l ++ encC x := by unfold cC; rw [List.flatMap_append]; simp
theorem eC_drop : ∀ (l : List Ent) (k : Nat), eC (l.drop k) = (eC l).drop (k * 4)
  | l, 0 => by simp
  | [], k + 1 => by simp [eC]
  | x :: l, k + 1 => by
    rw [List.drop_succ_cons, eC_drop l k, show (k + 1) * 4 = k * 4 + 4 by omega]
    rfl
theorem eC_one (l : List Ent) : ∀ v ∈ eC l, v.oneCell' = true := fun v hv => by
  obtain ⟨x, _, hx⟩ := List.mem_flatMap.1 hv
  simp [encE] at hx
  rcases hx with rfl | rfl | rfl | rfl <;> rfl
theorem cC_one (l : List Chg) : ∀ v ∈ cC l, v.oneCell' = true := fun v hv => by
  obtain ⟨x, _, hx⟩ := List.mem_flatMap.1 hv
  simp [encC] at hx
  rcases hx with rfl | rfl | rfl <;> rfl
theorem encE_ok (x : Ent) : ∀ u ∈ encE x, u.oneCell' = true := fun u hu => by
  simp [encE] at hu; rcases hu with rfl | rfl | rfl | rfl <;> rfl
theorem encC_ok (x : Chg) : ∀ u ∈ encC x, u.oneCell' = true := fun u hu => by
  simp [encC] at hu; rcases hu with rfl | rfl | rfl <;> rfl
/-- not falling -/
def Srt (l : List Ent) : Prop := l.Pairwise (fun a b => a.1 ≤ b.1)
/-- those above a revision -/
def abv (l : List Ent) (r : Int) : List Ent := l.filter fun x => decide (r < x.1)
/-- how many are of a revision or below -/
def cnt (l : List Ent) (r : Int) : Nat := l.countP fun x => decide (x.1 ≤ r)
theorem cnt_le (l : List Ent) (r : Int) : cnt l r ≤ l.length := List.countP_le_length
theorem abv_len (l : List Ent) (r : Int) : (abv l r).length ≤ l.length := List.length_filter_le _ _
theorem srt_abv {l : List Ent} (h : Srt l) (r : Int) : Srt (abv l r) := List.Pairwise.sublist List.filter_sublist h
theorem Srt.le {l : List Ent} (h : Srt l) {i j : Nat} (hi : i < l.length) (hj : j < l.length) (hij : i ≤ j) : l[i].1 ≤ l[j].1 := by
  rcases Nat.lt_or_ge i j with g | g
  · exact List.pairwise_iff_getElem.1 h i j hi hj g
  · obtain rfl : i = j := by omega
    exact Int.le_refl _
theorem abv_abv {l : List Ent} {r s : Int} (h : r ≤ s) : abv (abv l r) s = abv l s := by
  unfold abv
  rw [List.filter_filter]
  congr 1
  funext x
  by_cases hs : s < x.1
  · rw [decide_eq_true hs, decide_eq_true (show r < x.1 by omega)]; rfl
  · rw [decide_eq_false hs]; rfl
theorem drop_cnt : ∀ {l : List Ent} (r : Int), Srt l → l.drop (cnt l r) = abv l r
  | [], r, _ => by simp [abv]
  | x :: l, r, h => by
    have hx := (List.pairwise_cons.1 h).1
    by_cases hr : x.1 ≤ r
    · have e : cnt (x :: l) r = cnt l r + 1 := by unfold cnt; rw [List.countP_cons_of_pos (by simpa using hr)]
      have e2 : abv (x :: l) r = abv l r := by unfold abv; rw [List.filter_cons_of_neg (by simp; omega)]
      rw [e, e2, List.drop_succ_cons]
      exact drop_cnt r (List.pairwise_cons.1 h).2
    · have e : cnt (x :: l) r = 0 := by
        unfold cnt
        rw [List.countP_eq_zero]
        intro y hy
        rcases List.mem_cons.1 hy with rfl | hy
        · simpa using hr
        · have := hx y hy; simp; omega
      have e2 : abv (x :: l) r = x :: l := by
        unfold abv
        rw [List.filter_eq_self]
        intro y hy
        rcases List.mem_cons.1 hy with rfl | hy
        · simpa using hr
        · have := hx y hy; simp; omega
      rw [e, e2, List.drop_zero]
theorem abv_all {l : List Ent} {r : Int} (h : ∀ x ∈ l, r < x.1) : abv l r = l := by
  unfold abv
  rw [List.filter_eq_self]
  intro y hy
  simpa using h y hy
theorem abv_none {l : List Ent} {r : Int} (h : ∀ x ∈ l, x.1 ≤ r) : abv l r = [] := by
  unfold abv
  rw [List.filter_eq_nil_iff]
  intro y hy
  have := h y hy
  simp; omega
theorem abv_app (a b : List Ent) (r : Int) : abv (a ++ b) r = abv a r ++ abv b r := by unfold abv; rw [List.filter_append]
/-- the floor behind: as long as more are above it than may be, the lowest one's revision -/
def trm (m : Int) (all : List Ent) : Nat → Int → Int
  | 0, fl => fl
  | n + 1, fl => if m < ((abv all fl).length : Int) then match abv all fl with
    | [] => fl
    | x :: _ => trm m all n x.1 else fl
theorem trm_stop {m : Int} {all : List Ent} {fl : Int} (h : ¬ m < ((abv all fl).length : Int)) : ∀ n, trm m all n fl = fl
  | 0 => rfl
  | n + 1 => by rw [trm, if_neg h]
theorem trm_go {m : Int} {all : List Ent} {fl : Int} (hm : 1 ≤ m) (h : m < ((abv all fl).length : Int)) {x : Ent} {t : List Ent} (e : abv all fl = x :: t) (n : Nat) : trm m all (n + 1) fl = trm m all n x.1 := by
  rw [trm, if_pos h, e]
theorem mem_abv {all : List Ent} {fl : Int} {x : Ent} (h : x ∈ abv all fl) : x ∈ all ∧ fl < x.1 := by
  unfold abv at h
  have := List.mem_filter.1 h
  exact ⟨this.1, by simpa using this.2⟩
theorem abv_head {all : List Ent} {fl : Int} {x : Ent} {t : List Ent} (e : abv all fl = x :: t) : fl < x.1 ∧ x ∈ all ∧ (abv all x.1).length < (abv all fl).length := by
  have hx : x ∈ abv all fl := by rw [e]; exact List.mem_cons_self ..
  obtain ⟨h1, h2⟩ := mem_abv hx
  refine ⟨h2, h1, ?_⟩
  rw [← abv_abv (l := all) (Int.le_of_lt h2), e]
  unfold abv
  rw [List.filter_cons_of_neg (by simp)]
  have := List.length_filter_le (fun y : Ent => decide (x.1 < y.1)) t
  simp; omega
/-- it stops: so many steps are enough -/
theorem trm_enough {m : Int} {all : List Ent} (hm : 0 ≤ m) : ∀ (n k : Nat) (fl : Int), (abv all fl).length ≤ n → (abv all fl).length ≤ k → trm m all n fl = trm m all k fl
  | 0, k, fl, h, _ => by
    rw [trm_stop (n := k)]
    · rfl
    · omega
  | n + 1, 0, fl, _, h => by
    rw [trm_stop (n := n + 1)]
    · rfl
    · omega
  | n + 1, k + 1, fl, h1, h2 => by
    rw [trm, trm]
    split
    · cases e : abv all fl with
      | nil => rfl
      | cons x t =>
        obtain ⟨_, _, h3⟩ := abv_head e
        exact trm_enough hm n k x.1 (by omega) (by omega)
    · rfl
theorem trm_ge {m : Int} {all : List Ent} : ∀ (n : Nat) (fl : Int), fl ≤ trm m all n fl ∧ (trm m all n fl = fl ∨ ∃ x ∈ all, trm m all n fl = x.1)
  | 0, fl => ⟨Int.le_refl _, .inl rfl⟩
  | n + 1, fl => by
    rw [trm]
    split
    · cases e : abv all fl with
      | nil => exact ⟨Int.le_refl _, .inl rfl⟩
      | cons x t =>
        obtain ⟨h1, h2, _⟩ := abv_head e
        obtain ⟨g1, g2⟩ := trm_ge (m := m) (all := all) n x.1
        refine ⟨by simp only; omega, ?_⟩
        rcases g2 with g2 | ⟨y, hy, g2⟩
        · exact .inr ⟨x, h2, g2⟩
        · exact .inr ⟨y, hy, g2⟩
    · exact ⟨Int.le_refl _, .inl rfl⟩
/-- behind enough steps no more are above it than may be -/
theorem trm_done {m : Int} {all : List Ent} (hm : 0 ≤ m) : ∀ (n : Nat) (fl : Int), (abv all fl).length ≤ n → ¬ m < ((abv all (trm m all n fl)).length : Int)
  | 0, fl, h => by rw [trm]; omega
  | n + 1, fl, h => by
    rw [trm]
    split
    · cases e : abv all fl with
      | nil => simp only; rw [e]; simp; omega
      | cons x t =>
        obtain ⟨_, _, h3⟩ := abv_head e
        exact trm_done hm n x.1 (by omega)
    · assumption
/-- a log: all that ever came, the floor, the last revision -/
structure LS where
  all : List Ent
  fl : Int
  la : Int
def LS.zero : LS := ⟨[], 0, 0⟩
def ofC (rev : Int) (cs : List Chg) : List Ent := cs.map fun x => (rev, x)
/-- behind an addition -/
def LS.add (s : LS) (m : Int) (rev : Int) (cs : List Chg) : LS := if rev ≤ s.la then s else ⟨s.all ++ ofC rev cs, trm m (s.all ++ ofC rev cs) (s.all ++ ofC rev cs).length s.fl, rev⟩
def addE (s : LS) (rev : Int) : Int := if rev ≤ s.la then 1 else 0
/-- right: not falling, none above the last revision, the floor not above it either, all above zero -/
structure Rgt (s : LS) : Prop where
  srt : Srt s.all
  top : ∀ x ∈ s.all, x.1 ≤ s.la
  low : ∀ x ∈ s.all, 1 ≤ x.1
  fl : s.fl ≤ s.la
  fl0 : 0 ≤ s.fl
theorem Rgt.zero : Rgt LS.zero := ⟨List.Pairwise.nil, (fun x hx => by cases hx), (fun x hx => by cases hx), Int.le_refl _, Int.le_refl _⟩
theorem srt_ofC {l : List Ent} (h : Srt l) {rev : Int} (ht : ∀ x ∈ l, x.1 ≤ rev) (cs : List Chg) : Srt (l ++ ofC rev cs) := by
  unfold Srt ofC
  rw [List.pairwise_append]
  refine ⟨h, ?_, fun a ha b hb => ?_⟩
  · rw [List.pairwise_map]
    exact List.pairwise_of_forall (fun _ _ => Int.le_refl _)
  · obtain ⟨c, _, rfl⟩ := List.mem_map.1 hb
    exact ht a ha
theorem ofC_len (rev : Int) (cs : List Chg) : (ofC rev cs).length = cs.length := by unfold ofC; simp
theorem ofC_mem {rev : Int} {cs : List Chg} {x : Ent} (h : x ∈ ofC rev cs) : x.1 = rev := by
  obtain ⟨c, _, rfl⟩ := List.mem_map.1 h; rfl
theorem ofC_snoc {rev : Int} {cs : List Chg} {j : Nat} (hj : j < cs.length) : ofC rev (cs.take (j + 1)) = ofC rev (cs.take j) ++ [(rev, cs[j])] := by
  unfold ofC
  rw [List.take_succ_eq_append_getElem hj, List.map_append]; rfl
theorem Rgt.la0 {s : LS} (h : Rgt s) : 0 ≤ s.la := Int.le_trans h.fl0 h.fl
theorem Rgt.add {s : LS} (h : Rgt s) (m rev : Int) (cs : List Chg) : Rgt (s.add m rev cs) := by
  unfold LS.add
  split
  · exact h
  · rename_i hr
    have h0 := h.la0
    have ht : ∀ x ∈ s.all ++ ofC rev cs, x.1 ≤ rev := fun x hx => by
      rcases List.mem_append.1 hx with g | g
      · have := h.top x g; omega
      · exact Int.le_of_eq (ofC_mem g)
    have hl : ∀ x ∈ s.all ++ ofC rev cs, 1 ≤ x.1 := fun x hx => by
      rcases List.mem_append.1 hx with g | g
      · exact h.low x g
      · rw [ofC_mem g]; omega
    obtain ⟨g1, g2⟩ := trm_ge (m := m) (all := s.all ++ ofC rev cs) (s.all ++ ofC rev cs).length s.fl
    refine ⟨srt_ofC h.srt (fun x hx => by have := h.top x hx; omega) cs, ht, hl, ?_, Int.le_trans h.fl0 g1⟩
    simp only
    rcases g2 with g2 | ⟨y, hy, g2⟩
    · rw [g2]; have := h.fl; omega
    · rw [g2]; exact ht y hy
theorem LS.add_la (s : LS) (m rev : Int) (cs : List Chg) : s.la ≤ (s.add m rev cs).la := by
  unfold LS.add
  split
  · exact Int.le_refl _
  · simp only; omega
theorem LS.add_len (s : LS) (m rev : Int) (cs : List Chg) : (s.add m rev cs).all.length ≤ s.all.length + cs.length := by
  unfold LS.add
  split
  · omega
  · simp [ofC_len]
/-- what is told behind a revision; why not -/
def sncE (s : LS) (r : Int) : Int := if r < s.fl then 9 else if s.la < r then 1 else 0
def sncL (s : LS) (r : Int) : List Ent := if sncE s r = 0 then abv s.all r else []
end Go.Proofs.Ytcmcbocegdejjaa.Cl
