/- Contracts of the library's strings.Cut, strings.CutPrefix and strings.Split at one byte, and of the document's own cut: for every text of at most a thousand bytes. -/
import Derived.Test.YtflhapnanhbcgaaDoorPcPlain
import Derived.Test.YtflhapnanhbcgaaDoorNuShelf
import Derived.Test.YtflhapnanhbcgaaDoorChCuts
import Derived.Shelf.Strings.Split
import Derived.Shelf.Strings.Search2
import Derived.Shelf.Small.Wraps
namespace Go.Proofs.YtflhapnanhbcgaaDoor.Pc
open Go.RowKit Jt
set_option linter.unusedSimpArgs false
set_option linter.unusedVariables false

/-- a text up to its first byte of some kind, and behind it -/
def cutP (c : UInt8) (l : List UInt8) : List UInt8 × List UInt8 := (l.takeWhile (· ≠ c), (l.dropWhile (· ≠ c)).drop 1)
theorem cutP_no {c : UInt8} {l : List UInt8} (h : ¬ c ∈ l) : cutP c l = (l, []) := by
  unfold cutP
  have hp : ∀ x ∈ l, (decide (x ≠ c)) = true := fun x hx => by simp; exact fun e => h (e ▸ hx)
  have h1 := List.takeWhile_append_of_pos (l₂ := []) hp
  have h2 := List.dropWhile_append_of_pos (l₂ := []) hp
  rw [List.append_nil] at h1 h2
  rw [h1, h2]; simp
theorem cutP_at {c : UInt8} {p q : List UInt8} (h : ¬ c ∈ p) : cutP c (p ++ c :: q) = (p, q) := by
  unfold cutP
  have hp : ∀ x ∈ p, (decide (x ≠ c)) = true := fun x hx => by simp; exact fun e => h (e ▸ hx)
  rw [List.takeWhile_append_of_pos hp, List.dropWhile_append_of_pos hp]
  simp
theorem cutP_len (c : UInt8) (l : List UInt8) : (cutP c l).1.length ≤ l.length ∧ (cutP c l).2.length ≤ l.length := by
  by_cases h : c ∈ l
  · obtain ⟨p, q, e, hp⟩ := List.eq_append_cons_of_mem h
    subst e
    rw [cutP_at hp]; simp; omega
  · rw [cutP_no h]; simp
theorem ext0 (s : ByteArray) (k : Nat) : s.extract 0 k = mkS (s.data.toList.take k) := mkS_of (by rw [Lib.extract_data]; simp)
theorem extN (s : ByteArray) (k : Nat) : s.extract k s.size = mkS (s.data.toList.drop k) := mkS_of (by rw [Lib.extract_data, List.take_of_length_le (by rw [List.length_drop, ← size_l]; exact Nat.le_refl _)])
def cutV (c : UInt8) (l : List UInt8) : Ending := .returned (.tuple #[.string (mkS (cutP c l).1), .string (mkS (cutP c l).2), .bool (decide (c ∈ l))])
theorem idx_neg {l : List UInt8} {c : UInt8} (h : ¬ c ∈ l) : Lib.indexByte l c = -1 := by
  have h1 := Lib.indexByte_ge l c
  have h2 : ¬ 0 ≤ Lib.indexByte l c := fun g => h ((Ch.idx_ge l c).1 g)
  omega
set_option maxRecDepth 100000 in
set_option maxHeartbeats 2000000 in
theorem lcut_c (s : ByteArray) (c : UInt8) (w : World) (hs : s.size ≤ 50000) : Calls Tryd.prog 26 #[.string s, .string ⟨#[c]⟩] w fun e w' => e = cutV c s.data.toList ∧ ∃ n, w' = w.drewN n := by
  have HI := Lib.hid (fun W => Any.stringslite_Index_one Tryd.lays219 s c W)
  have hsl := Lib.hid (size_l s)
  unfold cutV
  by_cases h : c ∈ s.data.toList
  · obtain ⟨k, hk, hkl, hnm, hsp⟩ := Ch.idx_split s.data.toList c ((Ch.idx_ge _ c).2 h)
    rw [hk] at HI
    have hcp : cutP c s.data.toList = (s.data.toList.take k, s.data.toList.drop (k + 1)) := by
      have := cutP_at (c := c) (p := s.data.toList.take k) (q := s.data.toList.drop (k + 1)) hnm
      rw [← hsp] at this; exact this
    rw [hcp, decide_eq_true h]
    rw [← hsl.out] at hkl
    have HE1 := Lib.hid (ext0 s k)
    have HE2 := Lib.hid (extN s (k + 1))
    have c1 : (0 : Int) ≤ (k : Int) := by omega
    have c2 : (k : Int) ≤ (s.size : Int) := by omega
    have c3 : (0 : Int) ≤ (k : Int) + 1 := by omega
    have c4 : (k : Int) + 1 ≤ (s.size : Int) := by omega
    have hs1 : (ByteArray.mk #[c]).size = 1 := rfl
    clear hk hnm hsp hcp h
    go_enter Tryd.func26, Tryd.ntmps26
    go_wp2_with (go_at_call 35; refine (HI.out _).mono ?_; rintro e w' ⟨rfl, rfl⟩)
    go_quiet (fail)
    go_wp2
    go_ret3
    exact ⟨by rw [← HE1.out, ← HE2.out]; rfl, _, rfl⟩
  · rw [idx_neg h] at HI
    rw [cutP_no h, decide_eq_false h]
    have HE : Hid (s = mkS s.data.toList) := mkS_of rfl
    clear h
    go_enter Tryd.func26, Tryd.ntmps26
    go_wp2_with (go_at_call 35; refine (HI.out _).mono ?_; rintro e w' ⟨rfl, rfl⟩)
    go_ret3
    exact ⟨by rw [← HE.out]; rfl, 0, rfl⟩
set_option maxRecDepth 100000 in
set_option maxHeartbeats 2000000 in
theorem cut_c (s : ByteArray) (c : UInt8) (w : World) (hs : s.size ≤ 50000) : Calls Tryd.prog 17 #[.string s, .string ⟨#[c]⟩] w fun e w' => e = cutV c s.data.toList ∧ ∃ n, w' = w.drewN n := by
  have HI := Lib.hid (fun W => lcut_c s c W hs)
  unfold cutV at HI ⊢
  revert HI
  generalize decide (c ∈ s.data.toList) = fd
  intro HI
  go_enter Tryd.func17, Tryd.ntmps17
  go_wp2_with (go_at_call 26; refine (HI.out _).mono ?_; rintro e w' ⟨rfl, n, rfl⟩)
  go_ret3
  exact ⟨rfl, n, rfl⟩
/-- the library's parts at one byte are the document's -/
theorem split_cutL (c : UInt8) : ∀ (k : Nat) (l : List UInt8), l.length ≤ k → Lib.splitK [c] 0 (Lib.count l [c]) l = Ch.cutL c l
  | 0, l, h => by
    have : l = [] := List.length_eq_zero_iff.1 (by omega)
    subst this
    rfl
  | k + 1, l, h => by
    by_cases hm : c ∈ l
    · obtain ⟨j, hj, hjl, hnm, hsp⟩ := Ch.idx_split l c ((Ch.idx_ge _ c).2 hm)
      have hcnt : Lib.count l [c] = Lib.count (l.drop (j + 1)) [c] + 1 := by
        rw [Lib.count_one, Lib.count_one]
        conv => lhs; rw [hsp]
        rw [List.count_append, List.count_cons_self, List.count_eq_zero_of_not_mem hnm]; omega
      rw [hcnt, Lib.splitK, Lib.index_one, hj, if_neg (by simp)]
      have ih := split_cutL c k (l.drop (j + 1)) (by rw [List.length_drop]; omega)
      have e2 : Ch.cutL c l = l.take j :: Ch.cutL c (l.drop (j + 1)) := by
        have := Ch.cutL_at c (l.take j) (l.drop (j + 1)) hnm
        rw [← hsp] at this; exact this
      rw [e2]
      simp only [Int.toNat_natCast, Nat.add_zero, List.length_singleton]
      rw [ih]
    · rw [Lib.count_one, List.count_eq_zero_of_not_mem hm, Lib.splitK, Ch.cutL_none c l hm]
def strsC (ps : List (List UInt8)) : Array Value := (ps.map (fun p => Value.string (mkS p))).toArray
theorem split_cells (c : UInt8) (s : ByteArray) : ((Lib.splitB ⟨#[c]⟩ 0 (Lib.countB s ⟨#[c]⟩) s).map Value.string).toArray = strsC (Ch.cutL c s.data.toList) := by
  have h := Lib.splitB_data ⟨#[c]⟩ 0 (Lib.countB s ⟨#[c]⟩) s
  have e := split_cutL c s.data.toList.length s.data.toList (Nat.le_refl _)
  have h2 : (Lib.splitB ⟨#[c]⟩ 0 (Lib.countB s ⟨#[c]⟩) s).map (·.data.toList) = Ch.cutL c s.data.toList := h.trans e
  unfold strsC
  rw [← h2, List.map_map]
  congr 1
theorem info9' : (Tryd.prog.info? 9).map (fun i => (i.zero, i.size, i.bytes)) = some (some (.string ByteArray.empty), 1, 16) := by kernel_rfl
set_option maxRecDepth 100000 in
set_option maxHeartbeats 2000000 in
theorem split_c (s : ByteArray) (c : UInt8) (w : World) (hs : s.size ≤ 50000) :
    Calls Tryd.prog 18 #[.string s, .string ⟨#[c]⟩] w fun e w' => e = .returned (.slice (some ⟨w.heap.size, 0, none⟩) (Ch.cutL c s.data.toList).length (Ch.cutL c s.data.toList).length) ∧ w' = w.alloc (.cells (strsC (Ch.cutL c s.data.toList)) 9) := by
  have h1 : 1 ≤ (ByteArray.mk #[c]).size := Nat.le_refl 1
  have hle := Lib.countB_le ⟨#[c]⟩ h1 s.size s (Nat.le_refl _)
  have hlen := Lib.splitB_all ⟨#[c]⟩ h1 0 _ s rfl
  have g := Any.strings_genSplit_core (P := Tryd.prog) (ρ := Tryd.lays146_ren) { Tryd.lays146 with } info9' s ⟨#[c]⟩ 0 (-1) (Lib.countB s ⟨#[c]⟩ + 1) w (by omega) h1 (Nat.zero_le _)
    (fun x d hx => by
      have := Any.strings_Index_one (P := Tryd.prog) (ρ := Tryd.lays146_ren) { Tryd.lays146 with } x c (w.alloc (.cells d (Tryd.lays146_ren.t 9)))
      rw [← Lib.index_one] at this; exact this)
    (by
      have := Any.strings_Count_one (P := Tryd.prog) (ρ := Tryd.lays146_ren) { Tryd.lays146 with } s c w
      unfold Lib.countByte at this
      rw [← Lib.count_one] at this
      exact this) (by decide) (by decide) (by rw [if_pos (by decide)]; omega)
  rw [Nat.add_sub_cancel, hlen] at g
  have e2 : Lib.cellsOf (Lib.splitB ⟨#[c]⟩ 0 (Lib.countB s ⟨#[c]⟩) s) (Lib.countB s ⟨#[c]⟩ + 1) = ((Lib.splitB ⟨#[c]⟩ 0 (Lib.countB s ⟨#[c]⟩) s).map Value.string).toArray := by rw [← hlen]; exact Lib.cellsOf_full _
  rw [e2, split_cells] at g
  have e3 : Lib.countB s ⟨#[c]⟩ + 1 = (Ch.cutL c s.data.toList).length := by
    have h4 := congrArg Array.size (split_cells c s)
    unfold strsC at h4
    simp only [List.size_toArray, List.length_map] at h4
    rw [← h4, hlen]
  rw [e3] at g
  have G := Lib.hid g
  clear g hle hlen e2 e3
  go_enter Tryd.func18, Tryd.ntmps18
  go_wp2_with (go_at_call 27; refine G.out.mono ?_; rintro e w' ⟨rfl, hw⟩; rw [hw])
  go_ret
  exact ⟨rfl, rfl⟩
end Go.Proofs.YtflhapnanhbcgaaDoor.Pc
