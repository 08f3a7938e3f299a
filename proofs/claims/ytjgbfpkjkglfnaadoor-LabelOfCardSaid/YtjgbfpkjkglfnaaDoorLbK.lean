/- What Of answers, as a function: plain; and both ways at once. -/
import Derived.Test.YtjgbfpkjkglfnaaDoorLbJ
namespace Go.Proofs.YtjgbfpkjkglfnaaDoor.Lb
open Go.RowKit Ch Jt
set_option linter.unusedSimpArgs false
set_option linter.unusedVariables false

def leN (x y : FB) : Bool := !decide (cfN y x < 0)
/-- pairs by their names -/
def srtL (fs : List FB) : List FB := fs.mergeSort leN
theorem srt_perm (fs : List FB) : (srtL fs).Perm fs := List.mergeSort_perm _ _
theorem leN_iff (x y : FB) : leN x y = true ↔ ¬ cfN y x < 0 := by unfold leN; simp
theorem srt_asc (fs : List FB) : Asc (srtL fs) := by
  have h := List.pairwise_mergeSort (le := leN) (fun a b c h1 h2 => by
      rw [leN_iff] at *
      have := swoN.ntrans c b a (by unfold Go.Proofs.ltOf; rw [decide_eq_false_iff_not]; exact h2) (by unfold Go.Proofs.ltOf; rw [decide_eq_false_iff_not]; exact h1)
      unfold Go.Proofs.ltOf at this
      rw [decide_eq_false_iff_not] at this
      exact this) (fun a b => by
      by_cases h : cfN b a < 0
      · have : leN b a = true := by rw [leN_iff, cf_anti]; omega
        rw [this]; simp
      · have : leN a b = true := by rw [leN_iff]; exact h
        rw [this]; simp) fs
  exact h.imp fun h => (leN_iff _ _).1 h
theorem srt_one {fs gs : List FB} (hp : gs.Perm fs) (ha : Asc gs) (ho : Onc fs) : gs = srtL fs := asc_one (hp.trans (srt_perm fs).symm) ha (srt_asc fs) ((onc_iff hp).2 ho)
/-- the set, and how that went -/
def ofA (fs : List FB) : List FB := if fs.any badB = true then [] else if Onc fs then srtL fs else []
def ofZ (fs : List FB) : Int := if fs.any badB = true then 3 else if Onc fs then 0 else 10
theorem of_rev {fs hs : List FB} (hp : hs.Perm fs) : ofA hs = ofA fs ∧ ofZ hs = ofZ fs := by
  have h1 : hs.any badB = fs.any badB := by
    rw [Bool.eq_iff_iff, List.any_eq_true, List.any_eq_true]
    exact ⟨fun ⟨x, hx, h⟩ => ⟨x, hp.mem_iff.1 hx, h⟩, fun ⟨x, hx, h⟩ => ⟨x, hp.mem_iff.2 hx, h⟩⟩
  have h2 : Onc hs ↔ Onc fs := onc_iff hp
  unfold ofA ofZ
  rw [h1]
  by_cases hb : fs.any badB = true
  · simp [hb]
  · by_cases ho : Onc fs
    · have : srtL hs = srtL fs := srt_one ((srt_perm hs).trans hp) (srt_asc hs) ho
      simp [hb, ho, h2, this]
    · simp [hb, ho, h2]
theorem ofA_mem {fs : List FB} {x : FB} (h : x ∈ ofA fs) : x ∈ fs ∧ badB x = false := by
  unfold ofA at h
  by_cases hb : fs.any badB = true
  · rw [if_pos hb] at h; cases h
  · rw [if_neg hb] at h
    by_cases ho : Onc fs
    · rw [if_pos ho] at h
      have hx := (srt_perm fs).mem_iff.1 h
      refine ⟨hx, ?_⟩
      have hb2 : fs.any badB = false := by simpa using hb
      rw [List.any_eq_false] at hb2
      simpa using hb2 x hx
    · rw [if_neg ho] at h; cases h
theorem ofA_len (fs : List FB) : (ofA fs).length ≤ fs.length := by
  unfold ofA
  split
  · simp
  · split
    · rw [(srt_perm fs).length_eq]; exact Nat.le_refl _
    · simp
theorem bad_vld {x : FB} (h : badB x = false) : vldB x.2.data.toList = true ∧ namB x.1.data.toList = true ∧ valB x.2.data.toList = true := by
  unfold badB at h
  have h1 : namB x.1.data.toList = true := by cases hn : namB x.1.data.toList <;> simp_all
  have h2 : valB x.2.data.toList = true := by cases hn : valB x.2.data.toList <;> simp_all
  refine ⟨?_, h1, h2⟩
  unfold valB at h2
  simp only [Bool.and_eq_true] at h2
  exact h2.2
/-- both ways at once -/
theorem of_uni {fs : List FB} {w : World} {e : Ending} {w' : World} (h : OfQ fs w e w') : ∃ ao cap, Pl ao ∧ e = .returned (.tuple #[.agg #[.slice ao (ofA fs).length cap], .int .i64 (ofZ fs)]) ∧ RdF (.slice ao (ofA fs).length cap) (ofA fs) w' ∧ Below w.heap.size w w' := by
  obtain ⟨hb, h⟩ := h
  rcases h with ⟨h1, rfl⟩ | ⟨h1, h2, rfl⟩ | ⟨h1, h2, ao, cap, gs, hpl, rfl, hp, ha, hr⟩
  · have e1 : ofA fs = [] := by unfold ofA; rw [if_pos h1]
    have e2 : ofZ fs = 3 := by unfold ofZ; rw [if_pos h1]
    rw [e1, e2]
    exact ⟨none, 0, .inl rfl, rfl, ⟨none, 0, rfl, fun h => absurd h (Nat.lt_irrefl _)⟩, hb⟩
  · have e1 : ofA fs = [] := by unfold ofA; rw [if_neg (by rw [h1]; decide), if_neg h2]
    have e2 : ofZ fs = 10 := by unfold ofZ; rw [if_neg (by rw [h1]; decide), if_neg h2]
    rw [e1, e2]
    exact ⟨none, 0, .inl rfl, rfl, ⟨none, 0, rfl, fun h => absurd h (Nat.lt_irrefl _)⟩, hb⟩
  · have e1 : ofA fs = srtL fs := by unfold ofA; rw [if_neg (by rw [h1]; decide), if_pos h2]
    have e2 : ofZ fs = 0 := by unfold ofZ; rw [if_neg (by rw [h1]; decide), if_pos h2]
    obtain rfl := srt_one hp ha h2
    rw [e1, e2, (srt_perm fs).length_eq]
    exact ⟨ao, cap, hpl, rfl, hr, hb⟩
end Go.Proofs.YtjgbfpkjkglfnaaDoor.Lb
