/- A store of many versions against the document's chains; plain mathematics, no walk. -/
import Derived.Test.YtjceofkcahfhmaaMvPm
import Derived.Test.YtjceofkcahfhmaaMvDj
namespace Go.Proofs.Ytjceofkcahfhmaa.Mv
open Go.RowKit Go.Lib Go.Maps Go.Shelf Go.Sort
open Go.Proofs.Ytjceofkcahfhmaa.Cn
set_option linter.unusedSimpArgs false
set_option linter.unusedVariables false

/-- a key's chain, as the document has it -/
def chD (Ns : List Key) (Cs : List (List Ver)) (k : Key) : List Ver := if k ∈ Ns then Cs.getD (ixOf Ns k) [] else []
theorem ixOf_lt : ∀ {Ns : List Key} {k : Key}, k ∈ Ns → ixOf Ns k < Ns.length
  | n :: Ns, k, h => by
    by_cases e : n = k
    · rw [show ixOf (n :: Ns) k = 0 from if_pos e]; simp
    · rw [show ixOf (n :: Ns) k = ixOf Ns k + 1 from if_neg e]
      rcases List.mem_cons.1 h with h | h
      · exact absurd h.symm e
      · have := ixOf_lt h; simp only [List.length_cons]; omega
theorem ixOf_get : ∀ {Ns : List Key} {k : Key} (h : k ∈ Ns), Ns[ixOf Ns k]'(ixOf_lt h) = k
  | n :: Ns, k, h => by
    by_cases e : n = k
    · have e0 : ixOf (n :: Ns) k = 0 := if_pos e
      simp only [e0]
      exact e
    · have e0 : ixOf (n :: Ns) k = ixOf Ns k + 1 := if_neg e
      rcases List.mem_cons.1 h with h' | h'
      · exact absurd h'.symm e
      · simp only [e0]
        exact ixOf_get h'
theorem ixOf_inj {Ns : List Key} {a b : Key} (ha : a ∈ Ns) (hb : b ∈ Ns) (h : ixOf Ns a = ixOf Ns b) : a = b := by
  have h1 := ixOf_get ha
  have h2 := ixOf_get hb
  simp only [h] at h1
  rw [← h1, h2]
theorem ixOf_app {Ns : List Key} {k x : Key} (h : k ∈ Ns) : ixOf (Ns ++ [x]) k = ixOf Ns k := by
  induction Ns with
  | nil => cases h
  | cons n Ns ih =>
    by_cases e : n = k
    · rw [show ixOf (n :: Ns) k = 0 from if_pos e]
      exact if_pos e
    · rcases List.mem_cons.1 h with h' | h'
      · exact absurd h'.symm e
      · rw [show ixOf (n :: Ns) k = ixOf Ns k + 1 from if_neg e]
        have : ixOf ((n :: Ns) ++ [x]) k = ixOf (Ns ++ [x]) k + 1 := if_neg e
        rw [this, ih h']
theorem ixOf_new : ∀ {Ns : List Key} {x : Key}, x ∉ Ns → ixOf (Ns ++ [x]) x = Ns.length
  | [], x, _ => if_pos rfl
  | n :: Ns, x, h => by
    have e : ¬ n = x := fun e => h (List.mem_cons.2 (.inl e.symm))
    have : ixOf ((n :: Ns) ++ [x]) x = ixOf (Ns ++ [x]) x + 1 := if_neg e
    rw [this, ixOf_new (fun hm => h (List.mem_cons_of_mem _ hm))]
    simp
theorem chD_put {Ns : List Key} {Cs : List (List Ver)} (hl : Ns.length = Cs.length) (key : Key) (v : Ver) (j : Key) : chD (putN Ns key) (putC Ns Cs key v) j = if j = key then chD Ns Cs j ++ [v] else chD Ns Cs j := by
  unfold putN putC
  by_cases hk : key ∈ Ns
  · rw [if_pos hk, if_pos hk]
    unfold chD
    by_cases hj : j = key
    · subst hj
      rw [if_pos hk, if_pos rfl, if_pos hk, List.getD_eq_getElem?_getD, List.getElem?_set_self (by rw [← hl]; exact ixOf_lt hk)]
      rfl
    · rw [if_neg hj]
      by_cases hjn : j ∈ Ns
      · rw [if_pos hjn, if_pos hjn, List.getD_eq_getElem?_getD, List.getElem?_set_ne (fun e => hj (ixOf_inj hjn hk e.symm)), ← List.getD_eq_getElem?_getD]
      · rw [if_neg hjn, if_neg hjn]
  · rw [if_neg hk, if_neg hk]
    unfold chD
    by_cases hj : j = key
    · subst hj
      rw [if_pos (by simp), if_pos rfl, if_neg hk, ixOf_new hk, hl, List.getD_eq_getElem?_getD]
      simp
    · rw [if_neg hj]
      by_cases hjn : j ∈ Ns
      · rw [if_pos (by simp [hjn]), if_pos hjn, ixOf_app hjn, List.getD_eq_getElem?_getD, List.getElem?_append_left (by rw [← hl]; exact ixOf_lt hjn), ← List.getD_eq_getElem?_getD]
      · rw [if_neg (by simp [hjn, hj]), if_neg hjn]
theorem le_sum {x : Nat} : ∀ {l : List Nat}, x ∈ l → x ≤ l.sum
  | y :: l, h => by
    rw [List.sum_cons]
    rcases List.mem_cons.1 h with e | e
    · omega
    · have := le_sum e; omega
theorem putN_nodup {Ns : List Key} (h : Ns.Nodup) (key : Key) : (putN Ns key).Nodup := by
  unfold putN
  by_cases hk : key ∈ Ns
  · rw [if_pos hk]; exact h
  · rw [if_neg hk, List.nodup_append]
    exact ⟨h, (by simp), fun a ha b hb e => hk (by rw [List.mem_singleton.1 hb] at e; rw [← e]; exact ha)⟩
theorem sumC_set {Cs : List (List Ver)} {i : Nat} (hi : i < Cs.length) (x : List Ver) : sumC (Cs.set i x) + Cs[i].length = sumC Cs + x.length := by
  unfold sumC
  induction Cs generalizing i with
  | nil => simp at hi
  | cons c Cs ih =>
    cases i with
    | zero => simp; omega
    | succ i =>
      have := ih (i := i) (by simpa using hi)
      simp only [List.set_cons_succ, List.map_cons, List.sum_cons, List.getElem_cons_succ]
      omega
theorem sumC_put {Ns : List Key} {Cs : List (List Ver)} (hl : Ns.length = Cs.length) (key : Key) (v : Ver) : sumC (putC Ns Cs key v) = sumC Cs + 1 := by
  unfold putC
  by_cases hk : key ∈ Ns
  · rw [if_pos hk]
    have hi : ixOf Ns key < Cs.length := by rw [← hl]; exact ixOf_lt hk
    have h1 := sumC_set hi (Cs.getD (ixOf Ns key) [] ++ [v])
    rw [List.getD_eq_getElem?_getD, List.getElem?_eq_getElem hi] at h1 ⊢
    simp only [Option.getD_some, List.length_append, List.length_cons, List.length_nil] at h1 ⊢
    omega
  · rw [if_neg hk]
    unfold sumC
    rw [List.map_append, List.sum_append]; simp
theorem putsP_facts {r : Int} {l : List ChT} {Ns : List Key} {Cs : List (List Ver)} (h : Ns.length = Cs.length) (hn : Ns.Nodup) : ∀ j, j ≤ l.length → (putsP r (l.take j) (Ns, Cs)).1.length = (putsP r (l.take j) (Ns, Cs)).2.length ∧ (putsP r (l.take j) (Ns, Cs)).1.Nodup ∧ sumC (putsP r (l.take j) (Ns, Cs)).2 = sumC Cs + j ∧ ∀ k, chD (putsP r (l.take j) (Ns, Cs)).1 (putsP r (l.take j) (Ns, Cs)).2 k = chD Ns Cs k ++ cmV r (l.take j) k := by
  intro j
  induction j with
  | zero => intro _; exact ⟨h, hn, rfl, fun k => by simp [cmV, putsP]⟩
  | succ j ih =>
    intro hj
    obtain ⟨h1, h2, h3, h4⟩ := ih (by omega)
    rw [putsP_snoc (by omega)]
    refine ⟨?_, putN_nodup h2 _, ?_, fun k => ?_⟩
    · exact (putC_len (M := ((putsP r (l.take j) (Ns, Cs)).2.map List.length).sum) h1 (fun c hc => le_sum (List.mem_map.2 ⟨c, hc, rfl⟩))).1
    · show sumC (putC _ _ _ _) = _
      rw [sumC_put h1, h3]; omega
    · show chD (putN _ _) (putC _ _ _ _) k = _
      rw [chD_put h1, cmV_snoc (show j < l.length by omega), h4]
      by_cases hk : k = (l[j]'(by omega)).1.data.toList
      · rw [if_pos hk, if_pos hk, List.append_assoc]
      · rw [if_neg hk, if_neg hk]
theorem sum_filter (h : Key → Nat) : ∀ (K : List Key), (K.map h).sum = ((K.filter fun k => decide (h k ≠ 0)).map h).sum := by
  intro K
  induction K with
  | nil => rfl
  | cons k K ih =>
    by_cases hk : h k = 0
    · rw [List.filter_cons_of_neg (by simpa using hk), List.map_cons, List.sum_cons, hk, ih]; simp
    · rw [List.filter_cons_of_pos (by simpa using hk), List.map_cons, List.map_cons, List.sum_cons, List.sum_cons, ih]
theorem sum_same {K K' : List Key} (h : Key → Nat) (hK : K.Nodup) (hK' : K'.Nodup) (h1 : ∀ k, h k ≠ 0 → k ∈ K) (h2 : ∀ k, h k ≠ 0 → k ∈ K') : (K.map h).sum = (K'.map h).sum := by
  rw [sum_filter h K, sum_filter h K']
  have hp : (K.filter fun k => decide (h k ≠ 0)).Perm (K'.filter fun k => decide (h k ≠ 0)) := by
    refine (List.perm_ext_iff_of_nodup (hK.filter _) (hK'.filter _)).2 fun k => ?_
    rw [List.mem_filter, List.mem_filter]
    constructor
    · rintro ⟨_, b⟩
      exact ⟨h2 k (of_decide_eq_true b), b⟩
    · rintro ⟨_, b⟩
      exact ⟨h1 k (of_decide_eq_true b), b⟩
  exact (hp.map h).sum_nat
theorem sumC_names {Ns : List Key} {Cs : List (List Ver)} (hl : Ns.length = Cs.length) (hn : Ns.Nodup) : sumC Cs = (Ns.map fun k => (chD Ns Cs k).length).sum := by
  unfold sumC
  have : Cs.map List.length = Ns.map fun k => (chD Ns Cs k).length := by
    apply List.ext_getElem
    · simp [hl]
    · intro i h1 h2
      rw [List.getElem_map, List.getElem_map]
      have hi : i < Ns.length := by simpa using h2
      have hix : ixOf Ns Ns[i] = i := idx_of hi rfl (fun k hk e => by
        have := (List.nodup_iff_pairwise_ne.1 hn)
        exact List.pairwise_iff_getElem.1 this k i (by omega) hi hk e)
      unfold chD
      rw [if_pos (List.getElem_mem hi), hix, List.getD_eq_getElem?_getD, List.getElem?_eq_getElem (by omega)]
      rfl
  rw [this]
theorem sum_both {f : Key → Option Chn} {K Ns : List Key} {Cs : List (List Ver)} (hK : Dm f K) (hl : Ns.length = Cs.length) (hn : Ns.Nodup) (hv : ∀ k, chD Ns Cs k = vrs f k) : sumV f K = sumC Cs := by
  rw [sumC_names hl hn]
  unfold sumV
  rw [show (fun k => (chD Ns Cs k).length) = fun k => (vrs f k).length from funext fun k => by rw [hv]]
  refine sum_same _ hK.1 hn (fun k hk => ?_) (fun k hk => ?_)
  · have := hK.2 k
    cases hf : f k with
    | none => rw [vrs_none hf] at hk; exact absurd rfl hk
    | some x => rw [hf] at this; exact of_decide_eq_true this.symm
  · rw [← hv] at hk
    unfold chD at hk
    by_cases h : k ∈ Ns
    · exact h
    · rw [if_neg h] at hk; exact absurd rfl hk
theorem chD_cmp {Ns : List Key} {Cs : List (List Ver)} (q : Int) (k : Key) : chD Ns (Cs.map fun c => cmp c q) k = cmp (chD Ns Cs k) q := by
  unfold chD
  by_cases h : k ∈ Ns
  · rw [if_pos h, if_pos h, List.getD_eq_getElem?_getD, List.getD_eq_getElem?_getD, List.getElem?_map]
    cases Cs[ixOf Ns k]? with
    | none => simp [cmp_nil]
    | some c => rfl
  · rw [if_neg h, if_neg h, cmp_nil]
end Go.Proofs.Ytjceofkcahfhmaa.Mv
