/- The order of names by their bytes, and rows of pairs that rise by it: plain mathematics; no program. -/
import Derived.Test.YtbimncnicioagaaDoorLbA
import Derived.Shelf.SlSortCmp.NoneTotal
namespace Go.Proofs.YtbimncnicioagaaDoor.Lb
open Go.RowKit Go.Sort Go.Lib Go.Shelf
set_option linter.unusedSimpArgs false
set_option linter.unusedVariables false

theorem cb_self : ∀ a : List UInt8, compareBytes a a = 0
  | [] => by simp [compareBytes]
  | c :: r => by
    unfold compareBytes
    rw [if_neg (by rw [UInt8.lt_iff_toNat_lt]; omega), if_neg (by rw [UInt8.lt_iff_toNat_lt]; omega)]
    exact cb_self r
theorem cb_anti : ∀ a b : List UInt8, compareBytes b a = - compareBytes a b
  | [], [] => by simp [compareBytes]
  | [], _ :: _ => by simp [compareBytes]
  | _ :: _, [] => by simp [compareBytes]
  | c :: r, d :: s => by
    unfold compareBytes
    by_cases h1 : c < d
    · have h2 : ¬ d < c := by rw [UInt8.lt_iff_toNat_lt] at *; omega
      rw [if_pos h1, if_neg h2, if_pos h1]; rfl
    · by_cases h2 : d < c
      · rw [if_pos h2, if_neg h1, if_pos h2]
      · rw [if_neg h2, if_neg h1, if_neg h1, if_neg h2]
        exact cb_anti r s
theorem cb_zero : ∀ a b : List UInt8, compareBytes a b = 0 → a = b
  | [], [], _ => rfl
  | [], _ :: _, h => by simp [compareBytes] at h
  | _ :: _, [], h => by simp [compareBytes] at h
  | c :: r, d :: s, h => by
    unfold compareBytes at h
    by_cases h1 : c < d
    · rw [if_pos h1] at h; omega
    · by_cases h2 : d < c
      · rw [if_neg h1, if_pos h2] at h; omega
      · rw [if_neg h1, if_neg h2] at h
        have : c = d := by apply UInt8.toNat_inj.1; rw [UInt8.lt_iff_toNat_lt] at *; omega
        rw [this, cb_zero r s h]
theorem cb_trans : ∀ a b c : List UInt8, compareBytes a b < 0 → compareBytes b c < 0 → compareBytes a c < 0
  | [], _, [], h1, h2 => by
    rename_i b
    cases b with
    | nil => simp [compareBytes] at h1
    | cons => simp [compareBytes] at h2
  | [], _, _ :: _, _, _ => by simp [compareBytes]
  | _ :: _, [], _, h1, _ => by simp [compareBytes] at h1
  | _ :: _, _ :: _, [], _, h2 => by simp [compareBytes] at h2
  | x :: r, y :: s, z :: t, h1, h2 => by
    unfold compareBytes at h1 h2 ⊢
    simp only [UInt8.lt_iff_toNat_lt] at *
    by_cases a1 : x.toNat < y.toNat
    · by_cases b1 : y.toNat < z.toNat
      · rw [if_pos (by omega)]; omega
      · rw [if_neg b1] at h2
        by_cases b2 : z.toNat < y.toNat
        · rw [if_pos b2] at h2; omega
        · rw [if_pos (by omega)]; omega
    · rw [if_neg a1] at h1
      by_cases a2 : y.toNat < x.toNat
      · rw [if_pos a2] at h1; omega
      · rw [if_neg a2] at h1
        by_cases b1 : y.toNat < z.toNat
        · rw [if_pos (by omega)]; omega
        · rw [if_neg b1] at h2
          by_cases b2 : z.toNat < y.toNat
          · rw [if_pos b2] at h2; omega
          · rw [if_neg b2] at h2
            rw [if_neg (by omega), if_neg (by omega)]
            exact cb_trans r s t h1 h2
/-- how names stand to each other -/
def cfN (x y : FB) : Int := compareBytes x.1.data.toList y.1.data.toList
theorem cf_eq {x y : FB} (h1 : ¬ cfN x y < 0) (h2 : ¬ cfN y x < 0) : x.1 = y.1 := by
  unfold cfN at h1 h2
  rw [cb_anti] at h2
  have h := cb_zero _ _ (show compareBytes x.1.data.toList y.1.data.toList = 0 by omega)
  obtain ⟨⟨⟨a⟩⟩, _⟩ := x
  obtain ⟨⟨⟨b⟩⟩, _⟩ := y
  have h' : a = b := h
  rw [h']
theorem cf_self (x : FB) : cfN x x = 0 := cb_self _
theorem cf_anti (x y : FB) : cfN y x = - cfN x y := cb_anti _ _
theorem swoN : SWO (ltOf cfN) where
  irrefl x := by unfold ltOf; rw [cf_self]; rfl
  trans x y z h1 h2 := by
    unfold ltOf at *
    rw [decide_eq_true_eq] at *
    exact cb_trans _ _ _ h1 h2
  ntrans x y z h1 h2 := by
    unfold ltOf at *
    rw [decide_eq_false_iff_not] at *
    intro h3
    by_cases h4 : cfN y x < 0
    · exact h2 (cb_trans _ _ _ h4 h3)
    · have e := cf_eq h1 h4
      apply h2
      unfold cfN at h3 ⊢
      rw [← e]; exact h3
/-- rows that don't fall by their names -/
def Asc (gs : List FB) : Prop := gs.Pairwise fun x y => ¬ cfN y x < 0
/-- no name twice -/
def Onc (gs : List FB) : Prop := (gs.map (·.1)).Nodup
instance (gs : List FB) : Decidable (Onc gs) := inferInstanceAs (Decidable (List.Nodup _))
theorem onc_iff {fs gs : List FB} (hp : gs.Perm fs) : Onc gs ↔ Onc fs := (hp.map (fun x : FB => x.1)).nodup_iff
theorem Onc.perm {fs gs : List FB} (h : Onc fs) (hp : gs.Perm fs) : Onc gs := (onc_iff hp).2 h
theorem onc_inj : ∀ {gs : List FB}, Onc gs → ∀ {x y : FB}, x ∈ gs → y ∈ gs → x.1 = y.1 → x = y
  | [], _, _, _, hx, _, _ => by cases hx
  | g :: r, h, x, y, hx, hy, e => by
    unfold Onc at h
    rw [List.map_cons, List.nodup_cons] at h
    rcases List.mem_cons.1 hx with hx' | hx'
    · rcases List.mem_cons.1 hy with hy' | hy'
      · rw [hx', hy']
      · subst hx'; exact absurd (List.mem_map.2 ⟨y, hy', e.symm⟩ : x.1 ∈ r.map (·.1)) h.1
    · rcases List.mem_cons.1 hy with hy' | hy'
      · subst hy'; exact absurd (List.mem_map.2 ⟨x, hx', e⟩ : y.1 ∈ r.map (·.1)) h.1
      · exact onc_inj (gs := r) h.2 hx' hy' e
/-- there is one such row -/
theorem asc_one : ∀ {gs hs : List FB}, gs.Perm hs → Asc gs → Asc hs → Onc gs → gs = hs
  | [], hs, hp, _, _, _ => (hp.symm.eq_nil).symm
  | g :: r, [], hp, _, _, _ => by have := hp.length_eq; simp at this
  | g :: r, h :: t, hp, ha, hb, ho => by
    have hg : g ∈ h :: t := hp.mem_iff.1 (by simp)
    have hh : h ∈ g :: r := hp.mem_iff.2 (by simp)
    have e : g = h := by
      have h1 : ¬ cfN h g < 0 := by
        rcases List.mem_cons.1 hh with rfl | hm
        · rw [cf_self]; omega
        · exact (List.pairwise_cons.1 ha).1 _ hm
      have h2 : ¬ cfN g h < 0 := by
        rcases List.mem_cons.1 hg with rfl | hm
        · rw [cf_self]; omega
        · exact (List.pairwise_cons.1 hb).1 _ hm
      exact onc_inj ho (by simp) hh (cf_eq h2 h1)
    subst e
    have hp' : r.Perm t := hp.cons_inv
    have ho' : Onc r := by unfold Onc at ho ⊢; rw [List.map_cons, List.nodup_cons] at ho; exact ho.2
    rw [asc_one hp' (List.pairwise_cons.1 ha).2 (List.pairwise_cons.1 hb).2 ho']
/-- of a row that doesn't fall: no name twice, just if none stands beside itself -/
theorem onc_adj {gs : List FB} (ha : Asc gs) (hn : ∀ i (h : i + 1 < gs.length), gs[i + 1].1 ≠ gs[i].1) : Onc gs := by
  have hlt : ∀ j i (hij : i < j) (hj : j < gs.length), cfN gs[i] gs[j] < 0 := by
    intro j
    induction j with
    | zero => intro i h; omega
    | succ j ih =>
      intro i hij hj
      have h1 : cfN gs[j] gs[j + 1] < 0 := by
        by_cases h : cfN gs[j] gs[j + 1] < 0
        · exact h
        · have h2 : ¬ cfN gs[j + 1] gs[j] < 0 := (List.pairwise_iff_getElem.1 ha) j (j + 1) (by omega) hj (by omega)
          exact absurd (cf_eq h2 h) (hn j hj)
      rcases Nat.lt_succ_iff_lt_or_eq.1 hij with h | h
      · exact cb_trans _ _ _ (ih i h (by omega)) h1
      · subst h; exact h1
  unfold Onc
  rw [List.nodup_iff_pairwise_ne, List.pairwise_map, List.pairwise_iff_getElem]
  intro i j hi hj hij e
  have h := hlt j i hij hj
  unfold cfN at h
  rw [e, cb_self] at h
  omega
theorem onc_no {gs : List FB} {i : Nat} (h : i + 1 < gs.length) (e : gs[i + 1].1 = gs[i].1) : ¬ Onc gs := fun ho => by
  unfold Onc at ho
  rw [List.nodup_iff_pairwise_ne, List.pairwise_map, List.pairwise_iff_getElem] at ho
  exact ho i (i + 1) (by omega) h (by omega) e.symm
theorem asc_of {d d' : Array FB} (hs : SortedIn (ltOf cfN) 0 d.size d') (hz : d'.size = d.size) : Asc d'.toList := by
  unfold Asc
  rw [List.pairwise_iff_getElem]
  intro i j hi hj hij
  have h := hs i j (Nat.zero_le _) hij (by rw [← hz]; simpa using hj)
  unfold ltOf at h
  rw [decide_eq_false_iff_not] at h
  rw [getElem!_pos d' i (by simpa using hi), getElem!_pos d' j (by simpa using hj)] at h
  simpa using h
theorem perm_of {d d' : Array FB} (hp : PermIn 0 d.size d d') : d'.toList.Perm d.toList := by
  have h := hp.2.2
  rw [show d.size = d'.size from hp.1.symm, Array.extract_size] at h
  rw [hp.1, Array.extract_size] at h
  exact h
end Go.Proofs.YtbimncnicioagaaDoor.Lb
