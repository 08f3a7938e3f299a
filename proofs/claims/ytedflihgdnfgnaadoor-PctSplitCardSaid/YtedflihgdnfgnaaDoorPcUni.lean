/- What Split and Query answer, both ways told at once: for every text of at most five hundred bytes. -/
import Derived.Test.YtedflihgdnfgnaaDoorPcSame
namespace Go.Proofs.YtedflihgdnfgnaaDoor.Pc
open Go.RowKit Jt
set_option linter.unusedSimpArgs false
set_option linter.unusedVariables false

theorem qryF_len : ∀ (ps : List (List UInt8)) (q : List PairL), qryF ps = some q → q.length ≤ ps.length
  | [], q, h => by simp only [qryF, Option.some.injEq] at h; subst h; simp
  | p :: ps, q, h => by
    rw [qryF] at h
    by_cases hp : p = []
    · rw [if_pos hp] at h
      have := qryF_len ps q h
      simp; omega
    · rw [if_neg hp] at h
      cases hx : pairL p with
      | none => rw [hx] at h; simp at h
      | some x =>
        rw [hx] at h
        cases hq : qryF ps with
        | none => rw [hq] at h; simp at h
        | some y =>
          rw [hq] at h
          have := qryF_len ps y hq
          simp at h
          subst h
          simp; omega
theorem dcA_len : ∀ (ps ds : List (List UInt8)), dcA ps = some ds → ds.length = ps.length
  | [], q, h => by simp only [dcA, Option.some.injEq] at h; subst h; simp
  | p :: ps, q, h => by
    rw [dcA] at h
    cases hx : decL false p with
    | none => rw [hx] at h; simp at h
    | some x =>
      rw [hx] at h
      cases hq : dcA ps with
      | none => rw [hq] at h; simp at h
      | some y =>
        rw [hq] at h
        have := dcA_len ps y hq
        simp at h
        subst h
        simp; omega
theorem qry_len {l : List UInt8} {q : List PairL} (h : qryL l = some q) : q.length ≤ l.length + 1 := by
  have h1 := qryF_len _ _ h
  have := Ch.cutL_len 38 l
  omega
theorem spl_len {l : List UInt8} {x : List (List UInt8) × List PairL} (h : splL l = some x) : x.1.length ≤ l.length + 1 ∧ x.2.length ≤ l.length + 1 := by
  unfold splL at h
  split at h
  · unfold splR spl2 at h
    have hl := cutP_len 63 (l.drop 1)
    have hd : (l.drop 1).length ≤ l.length := by rw [List.length_drop]; omega
    cases ha : dcA (Ch.cutL 47 (cutP 63 (l.drop 1)).1) with
    | none => rw [ha] at h; simp at h
    | some a =>
      cases hb : qryL (cutP 63 (l.drop 1)).2 with
      | none => rw [ha, hb] at h; simp at h
      | some b =>
        rw [ha, hb] at h
        simp at h
        subst h
        have h1 := dcA_len _ _ ha
        have h2 := qry_len hb
        have h3 := Ch.cutL_len 47 (cutP 63 (l.drop 1)).1
        simp only
        omega
  · simp at h
def spA (q : Option (List (List UInt8) × List PairL)) : List (List UInt8) := match q with | none => [] | some x => x.1
def spB (q : Option (List (List UInt8) × List PairL)) : List PairL := match q with | none => [] | some x => x.2
def qyB (q : Option (List PairL)) : List PairL := match q with | none => [] | some x => x
theorem spq_uni {q : Option (List (List UInt8) × List PairL)} {w : World} {e : Ending} {w' : World} (h : SpQ q w e w') : ∃ v u z, Hid (z = if q.isSome then (0 : Int) else 3) ∧ e = .returned (.tuple #[v, u, .int .i64 z]) ∧ OwS w.heap.size v (spA q) w' ∧ OwP 45 w.heap.size u (spB q) w' ∧ Below w.heap.size w w' := by
  obtain ⟨h1, hb⟩ := h
  cases q with
  | none => exact ⟨_, _, 3, rfl, h1, World.ownsRow_nil _ _ _ _, World.ownsRow_nil _ _ _ _, hb⟩
  | some x =>
    obtain ⟨v, u, h1, h2, h3⟩ := h1
    exact ⟨v, u, 0, rfl, h1, h2, h3, hb⟩
theorem spw_uni {q : Option (List (List UInt8) × List PairL)} {w : World} {e : Ending} {w' : World} (h : SpW q w e w') : ∃ v u, e = .returned (.tuple #[v, u, .bool q.isSome]) ∧ OwS w.heap.size v (spA q) w' ∧ OwP 44 w.heap.size u (spB q) w' ∧ Below w.heap.size w w' := by
  obtain ⟨h1, hb⟩ := h
  cases q with
  | none => exact ⟨_, _, h1, World.ownsRow_nil _ _ _ _, World.ownsRow_nil _ _ _ _, hb⟩
  | some x =>
    obtain ⟨v, u, h1, h2, h3⟩ := h1
    exact ⟨v, u, h1, h2, h3, hb⟩
theorem qyq_uni {q : Option (List PairL)} {w : World} {e : Ending} {w' : World} (h : QyQ q w e w') : ∃ u z, Hid (z = if q.isSome then (0 : Int) else 3) ∧ e = .returned (.tuple #[u, .int .i64 z]) ∧ OwP 45 w.heap.size u (qyB q) w' ∧ Below w.heap.size w w' := by
  obtain ⟨h1, hb⟩ := h
  cases q with
  | none => exact ⟨_, 3, rfl, h1, World.ownsRow_nil _ _ _ _, hb⟩
  | some x =>
    obtain ⟨u, h1, h3⟩ := h1
    exact ⟨u, 0, rfl, h1, h3, hb⟩
theorem qyv_uni {q : Option (List PairL)} {w : World} {e : Ending} {w' : World} (h : QyV q w e w') : ∃ u, e = .returned (.tuple #[u, .bool q.isSome]) ∧ OwP 44 w.heap.size u (qyB q) w' ∧ Below w.heap.size w w' := by
  obtain ⟨h1, hb⟩ := h
  cases q with
  | none => exact ⟨_, h1, World.ownsRow_nil _ _ _ _, hb⟩
  | some x =>
    obtain ⟨u, h1, h3⟩ := h1
    exact ⟨u, h1, h3, hb⟩
theorem ows_at {B : Nat} {v : Value} {ps : List (List UInt8)} {w : World} (h : OwS B v ps w) (hn : 0 < ps.length) : ∃ g cap, v = .slice (some ⟨g, 0, none⟩) ps.length cap ∧ g < w.heap.size ∧ ps.length ≤ cap ∧ ∀ i (hi : i < ps.length), w.cell? ⟨g, i, none⟩ = some (.string (mkS ps[i])) := by
  rcases h.2 with ⟨rfl, h0⟩ | ⟨g, cap, cur, rfl, hB, hg, hc, hcm, hsz, htk⟩
  · omega
  · refine ⟨g, cap, rfl, (Array.getElem?_eq_some_iff.1 hg).1, hc, fun i hi => ?_⟩
    have hl : (stV ps).length = ps.length := by unfold stV; simp
    have hp : (stV ps)[i]? = some (.string (mkS ps[i])) := by unfold stV; simp [hi]
    rw [cell_of_row _ _ _ _ _ _ hg]
    rw [← htk, List.getElem?_take_of_lt (by omega), Array.getElem?_toList] at hp
    exact hp
end Go.Proofs.YtedflihgdnfgnaaDoor.Pc
