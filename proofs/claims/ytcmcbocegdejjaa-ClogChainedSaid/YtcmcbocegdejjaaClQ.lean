/- Both logs behind so many additions; what they are asked then; no other condition. -/
import Derived.Test.YtcmcbocegdejjaaClP
namespace Go.Proofs.Ytcmcbocegdejjaa.Cl
open Go.RowKit Go.Lib Go.Shelf Go.Sort
set_option linter.unusedSimpArgs false
set_option linter.unusedVariables false

theorem btr {a b d : World} (h : Below a.heap.size a b) (k : Below b.heap.size b d) : Below a.heap.size a d := h.trans (k.mono h.size)
/-- the log behind so many additions -/
def runF (m : Int) (s : LS) (ts : List OpT) (j : Nat) : LS := (ts.take j).foldl (adO m) s
theorem runF_zero (m : Int) (s : LS) (ts : List OpT) : runF m s ts 0 = s := rfl
theorem runF_succ {m : Int} {s : LS} {ts : List OpT} {j : Nat} (h : j < ts.length) : runF m s ts (j + 1) = adO m (runF m s ts j) ts[j] := by
  unfold runF
  rw [List.take_succ_eq_append_getElem h, List.foldl_append]
  rfl
theorem runF_all {m : Int} {s : LS} {ts : List OpT} {j : Nat} (h : ts.length ≤ j) : runF m s ts (j + 1) = runF m s ts j := by
  unfold runF
  rw [List.take_of_length_le h, List.take_of_length_le (by omega)]
theorem runF_rgt {m : Int} {s : LS} (hs : Rgt s) (ts : List OpT) : ∀ j, Rgt (runF m s ts j)
  | 0 => hs
  | j + 1 => by
    by_cases h : j < ts.length
    · rw [runF_succ h]; exact adO_rgt (runF_rgt hs ts j) _
    · rw [runF_all (by omega)]; exact runF_rgt hs ts j
theorem runF_bd (m : Int) (s : LS) (ts : List OpT) : ∀ j, (runF m s ts j).all.length ≤ s.all.length + 6 * j ∧ (runF m s ts j).la ≤ s.la + 8 * (j : Int)
  | 0 => ⟨by rw [runF_zero]; omega, by rw [runF_zero]; omega⟩
  | j + 1 => by
    obtain ⟨h1, h2⟩ := runF_bd m s ts j
    by_cases h : j < ts.length
    · rw [runF_succ h]
      have := adO_len m (runF m s ts j) ts[j]
      have := adO_la m (runF m s ts j) ts[j]
      exact ⟨by omega, by omega⟩
    · rw [runF_all (by omega)]; exact ⟨by omega, by omega⟩
theorem zero_bd : LS.zero.all.length = 0 ∧ LS.zero.la = 0 := ⟨rfl, rfl⟩
/-- both logs as they are made -/
theorem Pr.new {m : Int} {w w1 w2 : World} (h1 : IsLg w.heap.size w.heap.size none m [] 0 0 w1) (b1 : Below w.heap.size w w1) (h2 : IsR w1.heap.size w1.heap.size none (max m 1) [] 0 0 w2) (b2 : Below w1.heap.size w1 w2) : Pr w.heap.size none w1.heap.size none m LS.zero LS.zero w w2 := by
  have hlt := h1.lt
  refine ⟨h1.go b2, ?_, btr b1 b2, Nat.le_refl _, b1.size, by omega, by simp, by simp, (fun g hg => by cases hg), Rgt.zero, Rgt.zero⟩
  obtain ⟨v, hv, ho, e⟩ := h2.ex
  refine ⟨⟨v, hv, ?_, e⟩, h2.ne⟩
  rcases ho.2 with ⟨rfl, _⟩ | ⟨g, cap, cur, rfl, _⟩
  · exact World.ownsRow_nil _ _ _ _
  · cases e
/-- Since, at any revision -/
theorem Since_c {B c : Nat} {gb : Option Nat} {m : Int} {s : LS} {w : World} (h : IsS B c gb m s w) (hR : Rgt s) (rev : Int) (hm : s.all.length ≤ 1000000) :
    Calls Try.prog 14 #[.pointer (some ⟨c, 0, none⟩), .int .i64 rev] w fun e w' => ∃ v, e = .returned (.tuple #[v, .int .i64 (sncE s rev)]) ∧ RdE v (sncL s rev) w' ∧ Below w.heap.size w w' := by
  unfold sncL sncE
  by_cases h1 : rev < s.fl
  · rw [if_pos h1, if_neg (by decide)]
    exact (Since_gone h rev h1).mono fun e V ⟨h, hv⟩ => ⟨_, h, Rd.nil _ _ _ _, by rw [hv]; exact Below.refl _ _⟩
  · by_cases h2 : s.la < rev
    · rw [if_neg h1, if_pos h2, if_neg (by decide)]
      exact (Since_arg h rev h1 h2).mono fun e V ⟨h, hv⟩ => ⟨_, h, Rd.nil _ _ _ _, by rw [hv]; exact Below.refl _ _⟩
    · rw [if_neg h1, if_neg h2, if_pos rfl]
      refine (Since_ok h rev h1 h2 (srt_abv hR.srt _) (by have := abv_len s.all s.fl; omega)).mono fun e V ⟨v, h, hr, hb⟩ => ⟨v, h, ?_, hb⟩
      rwa [abv_abv (by omega)] at hr
theorem snc_fl {s : LS} (h : Rgt s) : sncE s s.fl = 0 ∧ sncL s s.fl = abv s.all s.fl := by
  have := h.fl
  have h0 : sncE s s.fl = 0 := by unfold sncE; rw [if_neg (by omega), if_neg (by omega)]
  exact ⟨h0, by unfold sncL; rw [if_pos h0]⟩
theorem snc_len (s : LS) (r : Int) : (sncL s r).length ≤ s.all.length := by
  unfold sncL
  split
  · exact abv_len _ _
  · exact Nat.zero_le _
end Go.Proofs.Ytcmcbocegdejjaa.Cl
