/- The document's store: Commit; no other condition. -/
import Derived.Test.YtjceofkcahfhmaaMvDi
namespace Go.Proofs.Ytjceofkcahfhmaa.Mv
open Go.RowKit Go.Lib Go.Maps Go.Shelf Go.Sort
open Go.Proofs.Ytjceofkcahfhmaa.Cn
set_option linter.unusedSimpArgs false
set_option linter.unusedVariables false

theorem IsR.cut {F G : Nat → Prop} {r : Nat} {A : List (List ItT)} {kl vl fl : Int} {Ns : List Key} {Cs : List (List Ver)} {w : World} (h : IsR F G r A kl vl fl Ns Cs w) : IsR (fun k => F k ∧ k < w.heap.size) G r A kl vl fl Ns Cs w := by
  obtain ⟨⟨vA, vN, vC, cs, h1, h2, h3, h4, h5, h6, h7, h8⟩, h9, h10⟩ := h
  exact ⟨⟨vA, vN, vC, cs, h1, h2.up (fun k a b => ⟨a, b⟩), h3, fun g e => ⟨(h4 g e).1, fun hh => (h4 g e).2 hh.1⟩, h5, fun g e => ⟨(h6 g e).1, fun hh => (h6 g e).2 hh.1⟩, h7, fun i hi hj => (h8 i hi hj).up (fun k a b => ⟨a, b⟩)⟩, ⟨h9.1, fun hh => h9.2 hh.1⟩, fun k hk => h10 k hk.1⟩
theorem IsR.wide {F G G' : Nat → Prop} {r : Nat} {A : List (List ItT)} {kl vl fl : Int} {Ns : List Key} {Cs : List (List Ver)} {w : World} (h : IsR F G r A kl vl fl Ns Cs w) (hG : ∀ k, G k → G' k) : IsR F G' r A kl vl fl Ns Cs w := by
  obtain ⟨⟨vA, vN, vC, cs, h1, h2, h3, h4, h5, h6, h7, h8⟩, h9, h10⟩ := h
  exact ⟨⟨vA, vN, vC, cs, h1, h2, h3, fun g e => ⟨hG g (h4 g e).1, (h4 g e).2⟩, h5, fun g e => ⟨hG g (h6 g e).1, (h6 g e).2⟩, h7, h8⟩, ⟨hG r h9.1, h9.2⟩, fun k hk => hG k (h10 k hk)⟩
theorem RdA.vals {F : Nat → Prop} {g cap n : Nat} {A : List (List ItT)} {w : World} (h : RdA F (.slice (some ⟨g, 0, none⟩) n cap) A w) : ∃ vs : List Value, vs.length = A.length ∧ (∀ i u, vs[i]? = some u → w.cell? ⟨g, i, none⟩ = some u) ∧ (∀ u ∈ vs, u.oneCell' = true) ∧ ∀ i (hi : i < A.length) (hj : i < vs.length), RdI F vs[i] A[i] w := by
  obtain ⟨g', cap', e, hc, h0, hF, hg, hat⟩ := h
  injection e with e1 e2 e3
  injection e1 with e1
  injection e1 with e1
  subst e1
  have hex : ∀ i : Nat, ∃ v : Value, i < A.length → w.cell? ⟨g, i, none⟩ = some v ∧ v.oneCell' = true ∧ ∀ hi : i < A.length, RdI F v A[i] w := fun i => by
    by_cases hi : i < A.length
    · obtain ⟨vi, a, b⟩ := hat i hi
      obtain ⟨ao, cp, e, _⟩ := id b
      exact ⟨vi, fun _ => ⟨a, by rw [e]; rfl, fun _ => b⟩⟩
    · exact ⟨.bool true, fun h => absurd h hi⟩
  let fv : Nat → Value := fun i => Classical.choose (hex i)
  have hfv : ∀ i, i < A.length → w.cell? ⟨g, i, none⟩ = some (fv i) ∧ (fv i).oneCell' = true ∧ ∀ hi : i < A.length, RdI F (fv i) A[i] w := fun i => Classical.choose_spec (hex i)
  refine ⟨(List.range A.length).map fv, by simp, fun i u hu => ?_, fun u hu => ?_, fun i hi hj => ?_⟩
  · rw [List.getElem?_map] at hu
    by_cases hi : i < A.length
    · rw [List.getElem?_range hi] at hu
      injection hu with hu
      rw [← hu]; exact (hfv i hi).1
    · rw [List.getElem?_eq_none (by simpa using hi)] at hu; cases hu
  · obtain ⟨i, hi, rfl⟩ := List.mem_map.1 hu
    exact (hfv i (List.mem_range.1 hi)).2.1
  · simp only [List.getElem_map, List.getElem_range]
    exact (hfv i hi).2.2 hi
theorem new1 (w : World) (a : Value) (T : TypeId) : ∃ W, W = w.alloc (.cells #[a] T) ∧ W.heap[w.heap.size]? = some (.cells #[a] T (0, 0)) ∧ Below w.heap.size w W := ⟨_, rfl, heap_alloc_new w _, (Below.refl _ _).alloc (Nat.le_refl _) _⟩
theorem infoLI : (Try.prog.info? 40).map (fun i => (i.zero, i.size, i.bytes)) = some (some (.slice none 0 0), 1, 24) := by kernel_rfl
/-- versions more, one a change -/
def putsP (r : Int) (l : List ChT) (s : List Key × List (List Ver)) : List Key × List (List Ver) := l.foldl (fun s c => (putN s.1 c.1.data.toList, putC s.1 s.2 c.1.data.toList (r, c.2.1, c.2.2))) s
theorem putsP_snoc {r : Int} {l : List ChT} {s : List Key × List (List Ver)} {j : Nat} (hj : j < l.length) : putsP r (l.take (j + 1)) s = (putN (putsP r (l.take j) s).1 l[j].1.data.toList, putC (putsP r (l.take j) s).1 (putsP r (l.take j) s).2 l[j].1.data.toList (r, l[j].2.1, l[j].2.2)) := by
  unfold putsP
  rw [List.take_succ_eq_append_getElem hj, List.foldl_append]; rfl
theorem putC_len {Ns : List Key} {Cs : List (List Ver)} {key : Key} {v : Ver} {M : Nat} (h : Ns.length = Cs.length) (hL : ∀ c ∈ Cs, c.length ≤ M) : (putN Ns key).length = (putC Ns Cs key v).length ∧ (putC Ns Cs key v).length ≤ Cs.length + 1 ∧ ∀ c ∈ putC Ns Cs key v, c.length ≤ M + 1 := by
  unfold putN putC
  by_cases hk : key ∈ Ns
  · rw [if_pos hk, if_pos hk]
    refine ⟨by rw [List.length_set, h], by rw [List.length_set]; omega, fun c hc => ?_⟩
    rcases List.mem_or_eq_of_mem_set hc with e | e
    · have := hL c e; omega
    · rw [e, List.length_append]
      have : (Cs.getD (ixOf Ns key) []).length ≤ M := by
        rw [List.getD_eq_getElem?_getD]
        cases hg : Cs[ixOf Ns key]? with
        | none => simp
        | some x => exact hL x (List.mem_of_getElem? hg)
      simp only [List.length_cons, List.length_nil]; omega
  · rw [if_neg hk, if_neg hk]
    refine ⟨by simp [h], by simp, fun c hc => ?_⟩
    rcases List.mem_append.1 hc with e | e
    · have := hL c e; omega
    · rw [List.mem_singleton.1 e]; simp
theorem putsP_len {r : Int} {l : List ChT} {Ns : List Key} {Cs : List (List Ver)} {M : Nat} (h : Ns.length = Cs.length) (hL : ∀ c ∈ Cs, c.length ≤ M) : ∀ j, j ≤ l.length → (putsP r (l.take j) (Ns, Cs)).1.length = (putsP r (l.take j) (Ns, Cs)).2.length ∧ (putsP r (l.take j) (Ns, Cs)).2.length ≤ Cs.length + j ∧ ∀ c ∈ (putsP r (l.take j) (Ns, Cs)).2, c.length ≤ M + j := by
  intro j
  induction j with
  | zero => intro _; exact ⟨h, Nat.le_refl _, hL⟩
  | succ j ih =>
    intro hj
    obtain ⟨h1, h2, h3⟩ := ih (by omega)
    rw [putsP_snoc (by omega)]
    obtain ⟨g1, g2, g3⟩ := putC_len (key := (l[j]'(by omega)).1.data.toList) (v := (r, (l[j]'(by omega)).2.1, (l[j]'(by omega)).2.2)) h1 h3
    exact ⟨g1, Nat.le_trans g2 (by omega), fun c hc => by have := g3 c hc; omega⟩
theorem set0d {w : World} {r : Nat} {a0 a4 a5 : Value} {kl vl fl : Int} (h : w.heap[r]? = some (.cells #[a0, .int .i64 kl, .int .i64 vl, .int .i64 fl, a4, a5] 38 (0, 0))) (u : Value) : (w.setCell ⟨r, 0, none⟩ u).heap[r]? = some (.cells #[u, .int .i64 kl, .int .i64 vl, .int .i64 fl, a4, a5] 38 (0, 0)) := by
  have := Cn.blk_set h 0 u; simpa using this
/-- what Commit leaves -/
def CmD (F G : Nat → Prop) (r : Nat) (A : List (List ItT)) (kl vl fl : Int) (Ns : List Key) (Cs : List (List Ver)) (l : List ChT) (w wr : World) (j : Nat) : Prop :=
  ∃ F', IsR F' (Fx G w.heap.size) r (A ++ [nextL A l]) kl vl fl (putsP (revA A + 1) (l.take j) (Ns, Cs)).1 (putsP (revA A + 1) (l.take j) (Ns, Cs)).2 wr ∧ (∀ k, F' k → k < wr.heap.size) ∧ Fr G w wr
end Go.Proofs.Ytjceofkcahfhmaa.Mv
