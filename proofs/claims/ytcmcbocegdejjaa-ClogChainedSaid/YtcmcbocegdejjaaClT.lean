/- Next at any revision, by a key and by nil; what fits, item by item; no other condition. -/
import Derived.Test.YtcmcbocegdejjaaClR
namespace Go.Proofs.Ytcmcbocegdejjaa.Cl
open Go.RowKit Go.Lib Go.Shelf Go.Sort
set_option linter.unusedSimpArgs false
set_option linter.unusedVariables false

/-- up to which revision Next tells -/
def nxA (s : LS) (rev : Int) : Int := if sncE s rev = 0 then s.la else 0
def fil (k : ByteArray) (l : List Ent) : List Ent := l.filter fun x => fit k x.2
theorem fil_len (k : ByteArray) (l : List Ent) : (fil k l).length ≤ l.length := List.length_filter_le _ _
theorem fil_app (k : ByteArray) (a b : List Ent) : fil k (a ++ b) = fil k a ++ fil k b := List.filter_append _ _
theorem fil_snoc {k : ByteArray} {b : List Ent} {j : Nat} (hj : j < b.length) : fil k (b.take (j + 1)) = fil k (b.take j) ++ (if fit k b[j].2 = true then [b[j]] else []) := by
  rw [List.take_succ_eq_append_getElem hj, fil_app]
  congr 1
  unfold fil
  by_cases h : fit k b[j].2 = true <;> simp [h]
def NkQ (l : List Ent) (up E : Int) (w : World) (e : Ending) (w' : World) : Prop := ∃ v, e = .returned (.tuple #[v, .int .i64 up, .int .i64 E]) ∧ RdE v l w' ∧ Below w.heap.size w w' ∧ NwB v w.heap.size
theorem NextK_c {B c : Nat} {gb : Option Nat} {m : Int} {s : LS} {w : World} (h : IsS B c gb m s w) (hR : Rgt s) (rev : Int) (k : ByteArray) (kb : Nat) (hk : w.cell? ⟨kb, 0, none⟩ = some (.string k)) (hm : s.all.length ≤ 1000000) :
    Calls Try.prog 18 #[.pointer (some ⟨c, 0, none⟩), .int .i64 rev, fV kb] w (NkQ (fil k (sncL s rev)) (nxA s rev) (sncE s rev) w) := by
  unfold nxA sncL sncE
  by_cases h1 : rev < s.fl
  · rw [if_pos h1, if_neg (by decide), if_neg (by decide)]
    exact (Next_gone h rev _ h1).mono fun e V ⟨h, hv⟩ => ⟨_, h, Rd.nil _ none 0 _, by rw [hv]; exact Below.refl _ _, nwb_nil _ _ _⟩
  · by_cases h2 : s.la < rev
    · rw [if_neg h1, if_pos h2, if_neg (by decide), if_neg (by decide)]
      exact (Next_arg h rev _ h1 h2).mono fun e V ⟨h, hv⟩ => ⟨_, h, Rd.nil _ none 0 _, by rw [hv]; exact Below.refl _ _, nwb_nil _ _ _⟩
    · rw [if_neg h1, if_neg h2, if_pos rfl, if_pos rfl]
      refine (Next_key h rev k kb hk h1 h2 (srt_abv hR.srt _) (by have := abv_len s.all s.fl; omega)).mono fun e V ⟨v, h, hr, hb, hn⟩ => ⟨v, h, ?_, hb, hn⟩
      rwa [abv_abv (by omega)] at hr
theorem NextA_c {B c : Nat} {gb : Option Nat} {m : Int} {s : LS} {w : World} (h : IsS B c gb m s w) (hR : Rgt s) (rev : Int) (hm : s.all.length ≤ 1000000) :
    Calls Try.prog 18 #[.pointer (some ⟨c, 0, none⟩), .int .i64 rev, .nilFunc] w (NkQ (sncL s rev) (nxA s rev) (sncE s rev) w) := by
  unfold nxA sncL sncE
  by_cases h1 : rev < s.fl
  · rw [if_pos h1, if_neg (by decide), if_neg (by decide)]
    exact (Next_gone h rev _ h1).mono fun e V ⟨h, hv⟩ => ⟨_, h, Rd.nil _ none 0 _, by rw [hv]; exact Below.refl _ _, nwb_nil _ _ _⟩
  · by_cases h2 : s.la < rev
    · rw [if_neg h1, if_pos h2, if_neg (by decide), if_neg (by decide)]
      exact (Next_arg h rev _ h1 h2).mono fun e V ⟨h, hv⟩ => ⟨_, h, Rd.nil _ none 0 _, by rw [hv]; exact Below.refl _ _, nwb_nil _ _ _⟩
    · rw [if_neg h1, if_neg h2, if_pos rfl, if_pos rfl]
      refine (Next_all h rev h1 h2 (srt_abv hR.srt _) (by have := abv_len s.all s.fl; omega)).mono fun e V ⟨v, h, hr, hb, hn⟩ => ⟨v, h, ?_, hb, hn⟩
      have := abv_abv (l := s.all) (r := s.fl) (s := rev) (by omega)
      rw [this] at hr
      have h0 : ((abv s.all rev).filter fun x => tru x.2) = abv s.all rev := List.filter_eq_self.2 (fun _ _ => rfl)
      first | rwa [h0] at hr | exact hr
theorem snc_cases (s : LS) (r : Int) : sncE s r = 0 ∨ (sncE s r = 9 ∧ sncL s r = []) ∨ (sncE s r = 1 ∧ sncL s r = []) := by
  unfold sncL sncE
  by_cases h1 : r < s.fl
  · simp [h1]
  · by_cases h2 : s.la < r
    · simp [h1, h2]
    · simp [h1, h2]
end Go.Proofs.Ytcmcbocegdejjaa.Cl
