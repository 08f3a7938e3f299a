/- Contracts and plain mathematics of some packages' functions, laid together; conditions as each one says. -/
import Derived.Test.YtjceofkcahfhmaaCnA
import Derived.Test.YtjceofkcahfhmaaCnS
import Derived.Deep.QuietTactic
import Derived.BigQuiet
import Derived.Lib.LazyBuf
import Derived.Deep.AppendLies
import Derived.Deep.RegionLaw
import Derived.Laws.StructEq
namespace Go.Proofs.Ytjceofkcahfhmaa.Cn
open Go.RowKit Go.Lib Go.Shelf Go.Sort
set_option linter.unusedSimpArgs false
set_option linter.unusedVariables false

/-- versions that can be read -/
def RdV (v : Value) (l : List Ver) (w : World) : Prop := ∃ ao cap, v = .slice ao l.length cap ∧ (0 < l.length → ∃ g off, ao = some ⟨g, off, none⟩ ∧ g < w.heap.size ∧ ∀ i (hi : i < l.length), w.cell? ⟨g, off + i * 3, none⟩ = some (.int .i64 l[i].1) ∧ w.cell? ⟨g, off + i * 3 + 1, none⟩ = some (.string l[i].2.1) ∧ w.cell? ⟨g, off + i * 3 + 2, none⟩ = some (.bool l[i].2.2))
theorem RdV.go {v : Value} {l : List Ver} {w W : World} (h : RdV v l w) (hb : Below w.heap.size w W) : RdV v l W := by
  obtain ⟨ao, cap, rfl, h⟩ := h
  refine ⟨ao, cap, rfl, fun h0 => ?_⟩
  obtain ⟨g, off, rfl, hg, hc⟩ := h h0
  refine ⟨g, off, rfl, Nat.lt_of_lt_of_le hg hb.size, fun i hi => ?_⟩
  obtain ⟨a, b, c⟩ := hc i hi
  exact ⟨(hb.cell (p := ⟨g, off + i * 3, none⟩) hg).trans a, (hb.cell (p := ⟨g, off + i * 3 + 1, none⟩) hg).trans b, (hb.cell (p := ⟨g, off + i * 3 + 2, none⟩) hg).trans c⟩
theorem rdv_at {ao : Option Addr} {cap n : Nat} {l : List Ver} {w : World} (h : RdV (.slice ao n cap) l w) (h0 : 0 < l.length) : ∃ g off, ao = some ⟨g, off, none⟩ ∧ g < w.heap.size ∧ ∀ i (hi : i < l.length), w.cell? ⟨g, off + i * 3, none⟩ = some (.int .i64 l[i].1) ∧ w.cell? ⟨g, off + i * 3 + 1, none⟩ = some (.string l[i].2.1) ∧ w.cell? ⟨g, off + i * 3 + 2, none⟩ = some (.bool l[i].2.2) := by
  obtain ⟨ao', cp, e, hh⟩ := h
  injection e with ea eb ec
  subst ea
  exact hh h0
theorem rdv_nil (ao : Option Addr) (cap : Nat) (w : World) : RdV (.slice ao 0 cap) [] w := ⟨ao, cap, rfl, fun h => absurd h (Nat.lt_irrefl _)⟩
/-- a row of one's own -/
def OwV (T : TypeId) (B : Nat) (v : Value) (l : List Ver) (w : World) : Prop := w.ownsRow B T 3 v l.length (vC l)
theorem OwV.go {T : TypeId} {B : Nat} {v : Value} {l : List Ver} {w w' : World} (h : OwV T B v l w) (hb : Below w.heap.size w w') : OwV T B v l w' :=
  World.ownsRow.kept h (row := none) ⟨hb.os, hb.tape, hb.output, hb.size, fun k hk _ => hb.block k hk⟩ (by cases hv : v.ownBlock <;> simp)
theorem OwV.drop {T : TypeId} {B g n cap : Nat} {l : List Ver} {w : World} (h : OwV T B (.slice (some ⟨g, 0, none⟩) n cap) l w) (k : Nat) (hk : k ≤ l.length) (c2 : Nat) : RdV (.slice (some ⟨g, k * 3, none⟩) (l.length - k) c2) (l.drop k) w := by
  obtain ⟨_, h⟩ := h
  rcases h with ⟨h, _⟩ | ⟨g', cap', cur, hv, _, hgh, _, _, hz, htk⟩
  · cases h
  · injection hv with h1 h2 h3
    injection h1 with h1
    injection h1 with h1
    subst h1 h3
    refine ⟨_, _, by rw [List.length_drop], fun _ => ⟨g, k * 3, rfl, (Array.getElem?_eq_some_iff.1 hgh).1, fun i hi => ?_⟩⟩
    have hi' : k + i < l.length := by rw [List.length_drop] at hi; omega
    have e : (l.drop k)[i] = l[k + i] := by simp
    rw [e]
    have hat := vC_at l (k + i) hi'
    have hcur : ∀ j, j < l.length * 3 → cur[j]? = (vC l)[j]? := fun j hj => by
      rw [← htk, List.getElem?_take_of_lt hj, Array.getElem?_toList]
    refine ⟨?_, ?_, ?_⟩
    · rw [cell_of_row _ _ _ _ _ _ hgh, hcur _ (by omega), show k * 3 + i * 3 = (k + i) * 3 by omega]; exact hat.1
    · rw [cell_of_row _ _ _ _ _ _ hgh, hcur _ (by omega), show k * 3 + i * 3 + 1 = (k + i) * 3 + 1 by omega]; exact hat.2.1
    · rw [cell_of_row _ _ _ _ _ _ hgh, hcur _ (by omega), show k * 3 + i * 3 + 2 = (k + i) * 3 + 2 by omega]; exact hat.2.2
theorem own_slV {T : TypeId} {B k n : Nat} {v : Value} {xs : List Value} {w : World} (h : w.ownsRow B T k v n xs) : (v = .slice none 0 0 ∧ n = 0) ∨ ∃ g cap, v = .slice (some ⟨g, 0, none⟩) n cap ∧ n ≤ cap ∧ cap ≤ maxLen ∧ g < w.heap.size := by
  rcases h.2 with h | ⟨g, cap, cur, hv, _, hgh, hn, hm, _⟩
  · exact .inl h
  · exact .inr ⟨g, cap, hv, hn, hm, (Array.getElem?_eq_some_iff.1 hgh).1⟩
theorem OwV.rd {T : TypeId} {B : Nat} {v : Value} {l : List Ver} {w : World} (h : OwV T B v l w) : RdV v l w := by
  rcases own_slV h with ⟨rfl, h0⟩ | ⟨g, cap, rfl, _⟩
  · cases l with
    | nil => exact rdv_nil _ _ _
    | cons => simp at h0
  · have := h.drop 0 (Nat.zero_le _) cap
    simpa using this
/-- a chain of one's own: the block, at most so many versions in its row, the row's block -/
def IsCh (B c N : Nat) (gb : Option Nat) (l : List Ver) (W : World) : Prop := ∃ v all, ∃ k : Nat, v.ownBlock = gb ∧ k ≤ all.length ∧ all.length ≤ N ∧ all.drop k = l ∧ W.heap[c]? = some (.cells #[v, .int .i64 (k : Int)] 108 (0, 0)) ∧ OwV 75 B v all W
theorem IsCh.go {B c N : Nat} {gb : Option Nat} {l : List Ver} {w w' : World} (h : IsCh B c N gb l w) (hb : Below w.heap.size w w') : IsCh B c N gb l w' := by
  obtain ⟨v, all, k, h1, h2, h3, h4, h5, h6⟩ := h
  exact ⟨v, all, k, h1, h2, h3, h4, (hb.block _ (Array.getElem?_eq_some_iff.1 h5).1).trans h5, h6.go hb⟩
theorem IsCh.le {B c N : Nat} {gb : Option Nat} {l : List Ver} {w : World} (h : IsCh B c N gb l w) : l.length ≤ N := by
  obtain ⟨v, all, k, h1, h2, h3, h4, h5, h6⟩ := h
  rw [← h4, List.length_drop]; omega
def KpQ (l : List Ver) (w : World) (e : Ending) (w' : World) : Prop := ∃ ao cap, e = .returned (.slice ao l.length cap) ∧ RdV (.slice ao l.length cap) l w ∧ ∃ n, w' = w.drewN n
set_option maxRecDepth 100000 in
set_option maxHeartbeats 1000000 in
theorem kept_c (B c N : Nat) (gb : Option Nat) (l : List Ver) (w : World) (h : IsCh B c N gb l w) (hN : N ≤ 1000000) :
    Calls Try.prog 47 #[.pointer (some ⟨c, 0, none⟩)] w (KpQ l w) := by
  obtain ⟨v, all, k, h1, h2, h3, h4, h5, h6⟩ := h
  have c0 := cell_of_row _ _ 0 _ _ _ h5
  have c1 := cell_of_row _ _ 1 _ _ _ h5
  simp at c0 c1
  have H4 := Lib.hid h4
  have H6 := Lib.hid h6
  rcases own_slV h6 with ⟨rfl, h0⟩ | ⟨g, cap, rfl, hn, hm, hg⟩
  · have hk : k = 0 := by omega
    subst hk
    have hl0 : l = [] := by rw [← h4]; simpa using h0
    subst hl0
    clear h1 h2 h3 h4 h5 h6 h0 H4 H6
    go_enter Try.func47, Try.ntmps47
    go_wp2
    go_quiet (fail)
    go_wp2
    go_ret
    exact ⟨none, 0, rfl, rdv_nil _ _ _, _, rfl⟩
  · unfold maxLen at hm
    have hll : all.length - k = l.length := by rw [← h4, List.length_drop]
    have HLL := Lib.hid hll
    by_cases hkc : k = cap
    · have hn2 : all.length = cap := by omega
      have hl0 : l = [] := by
        have : l.length = 0 := by rw [← hll]; omega
        exact List.eq_nil_of_length_eq_zero this
      subst hl0
      subst hkc
      rw [hn2] at c0
      clear h1 h2 h3 h4 h5 h6 hn hn2 hll HLL H4 H6
      go_enter Try.func47, Try.ntmps47
      go_wp2
      go_quiet (fail)
      go_wp2
      go_ret
      exact ⟨_, _, rfl, rdv_nil _ _ _, _, rfl⟩
    · have hR := Lib.hid (h6.drop k h2 (cap - k))
      have hkc2 : k < cap := by omega
      have hk0 : (0 : Int) ≤ (k : Int) := by omega
      have hkn : (k : Int) ≤ (all.length : Int) := by omega
      have hkp : (k : Int) ≤ (cap : Int) := by omega
      have hkz : ¬ (k : Int) = (cap : Int) := by omega
      rw [hll, H4.out] at hR
      clear h1 h3 h4 h5 h6 H4 H6
      go_enter Try.func47, Try.ntmps47
      go_wp2
      go_quiet (fail)
      go_wp2
      go_ret
      exact ⟨_, _, rfl, hR.out, _, rfl⟩
end Go.Proofs.Ytjceofkcahfhmaa.Cn
namespace Go.Proofs.Ytjceofkcahfhmaa.Cn
open Go.RowKit Go.Lib Go.Shelf Go.Sort
set_option linter.unusedSimpArgs false
set_option linter.unusedVariables false

set_option maxRecDepth 100000 in
set_option maxHeartbeats 1000000 in
theorem Len_c (B c N : Nat) (gb : Option Nat) (l : List Ver) (w : World) (h : IsCh B c N gb l w) (hN : N ≤ 1000000) :
    Calls Try.prog 39 #[.pointer (some ⟨c, 0, none⟩)] w fun e w' => e = .returned (.int .i64 (l.length : Nat)) ∧ ∃ n, w' = w.drewN n := by
  have HK := Lib.hid (kept_c B c N gb l w h hN)
  have hl := h.le
  clear h
  go_enter Try.func39, Try.ntmps39
  go_wp2_with fail
  refine HK.out.mono ?_
  rintro e w' ⟨ao, cap, rfl, _, n, rfl⟩
  go_wp2
  go_ret
  exact ⟨rfl, n, rfl⟩
theorem getD_at {l : List Ver} {i : Nat} (hi : i < l.length) : l.getD i zeroV = l[i] := by rw [List.getD_eq_getElem?_getD, List.getElem?_eq_getElem hi]; rfl
/-- the closure of upTo: is the i-th version above rev? -/
def abv (l : List Ver) (rev : Int) (i : Nat) : Bool := decide (rev < (l.getD i zeroV).1)
theorem abv_lt {l : List Ver} {rev : Int} {i : Nat} (hi : i < l.length) : abv l rev i = decide (rev < l[i].1) := by unfold abv; rw [getD_at hi]
theorem cnt_abv (l : List Ver) (rev : Int) : (List.range l.length).countP (fun i => !abv l rev i) = cnt l rev := by
  have h : l = (List.range l.length).map (fun i => l.getD i zeroV) := by
    apply List.ext_getElem
    · simp
    · intro i h1 h2
      simp only [List.getElem_map, List.getElem_range]
      rw [getD_at h1]
  unfold cnt
  conv => rhs; rw [h]
  rw [List.countP_map]
  apply List.countP_congr
  intro i _
  unfold abv
  simp
set_option maxRecDepth 100000 in
set_option maxHeartbeats 2000000 in
theorem clo_c (ba bx : Nat) (ao : Option Addr) (cap : Nat) (l : List Ver) (rev : Int) (i : Nat) (W : World) (hi : i < l.length) (hR : RdV (.slice ao l.length cap) l W)
    (ha : W.cell? ⟨ba, 0, none⟩ = some (.slice ao l.length cap)) (hx : W.cell? ⟨bx, 0, none⟩ = some (.int .i64 rev)) :
    Calls Try.prog 58 (#[.int .i64 i] ++ #[.pointer (some ⟨ba, 0, none⟩), .pointer (some ⟨bx, 0, none⟩)]) W fun e w' => e = .returned (.bool (abv l rev i)) ∧ ∃ q os', w' = grow (W.drewN q) os' := by
  obtain ⟨g, off, rfl, hg, hat⟩ := rdv_at hR (by omega)
  obtain ⟨p0, _, _⟩ := hat i hi
  rw [abv_lt hi]
  have hiz : (i : Int) < (l.length : Int) := by omega
  have hi0 : (0 : Int) ≤ (i : Int) := by omega
  clear hat hR
  revert p0
  generalize l[i].1 = y
  intro p0
  go_enter Try.func58, Try.ntmps58
  go_wp2
  go_quiet (fail)
  go_wp2
  go_ret
  exact ⟨rfl, _, #[], by rw [grow_empty]⟩
set_option maxHeartbeats 2000000 in
theorem upTo_c (ao : Option Addr) (cap : Nat) (l : List Ver) (rev : Int) (w : World) (hR : RdV (.slice ao l.length cap) l w) (ha : Asc l) (hm : l.length ≤ 1000000) :
    Calls Try.prog 48 #[.slice ao l.length cap, .int .i64 rev] w fun e w' => e = .returned (.int .i64 (cnt l rev : Nat)) ∧ Below w.heap.size w w' := by
  obtain ⟨W0, hW0⟩ : ∃ W0, W0 = (w.alloc (.cells #[.slice ao l.length cap] 98)).alloc (.cells #[.int .i64 rev] 2) := ⟨_, rfl⟩
  have hsize : W0.heap.size = w.heap.size + 1 + 1 := by rw [hW0]; simp
  have ca : W0.cell? ⟨w.heap.size, 0, none⟩ = some (.slice ao l.length cap) := by rw [hW0]; exact cell_alloc_sl _ (cell_new_sl w _ _)
  have cx : W0.cell? ⟨w.heap.size + 1, 0, none⟩ = some (.int .i64 rev) := by rw [hW0]; have := cell_new_sl (w.alloc (.cells #[.slice ao l.length cap] 98)) (.int .i64 rev) 2; rwa [World.size_alloc] at this
  have hB0 : Below w.heap.size w W0 := by rw [hW0]; exact ((Below.refl _ w).alloc (Nat.le_refl _) _).alloc (by simp) _
  have hR0 := hR.go hB0
  have eg : ∀ args w, (callFunc 58 args).run Try.prog w = .ok (.enter 58 args) w := enters_of Try.func58 (by kernel_rfl) rfl
  have hS := Any.sort_Search Try.search 58 #[.pointer (some ⟨w.heap.size, 0, none⟩), .pointer (some ⟨w.heap.size + 1, 0, none⟩)] l.length (abv l rev) W0 eg (by omega)
    (fun m os i hi => clo_c w.heap.size (w.heap.size + 1) ao cap l rev i _ hi (hR0.go (below_grown_sl W0.heap.size W0 m os (Nat.le_refl _))) (cell_grown (by simp [hsize]; omega) ca m os) (cell_grown (by simp [hsize]) cx m os))
    (fun a b hab hb h => by
      rw [abv_lt (by omega)] at h
      rw [abv_lt hb]
      rcases Nat.lt_or_ge a b with g | g
      · have := ha.lt (by omega) hb g; simp at h ⊢; omega
      · have e : a = b := by omega
        subst e; exact h)
  rw [cnt_abv] at hS
  change Calls Try.prog 44 _ _ _ at hS
  clear hR ca cx hR0 eg
  have HS := Lib.hid hS
  have HB0 := Lib.hid hB0
  have HZ := Lib.hid hsize
  have HW0 := Lib.hid hW0
  clear hS hB0 hsize hW0 ha
  generalize cnt l rev = r at HS ⊢
  go_enter Try.func48, Try.ntmps48
  go_wp2_with (go_at_call 44; rw [← HW0.out]; refine HS.out.mono ?_; rintro e w' ⟨rfl, q, os, rfl⟩)
  go_ret
  refine ⟨rfl, ?_⟩
  exact HB0.out.trans (below_grown_sl w.heap.size W0 q os (by have := HZ.out; omega))
end Go.Proofs.Ytjceofkcahfhmaa.Cn
namespace Go.Proofs.Ytjceofkcahfhmaa.Cn
open Go.RowKit Go.Lib Go.Shelf Go.Sort
set_option linter.unusedSimpArgs false
set_option linter.unusedVariables false

theorem bdrN (W : World) (n : Nat) : Below W.heap.size W (W.drewN n) := ⟨rfl, rfl, rfl, Nat.le_refl _, fun _ _ => rfl⟩
set_option maxRecDepth 100000 in
set_option maxHeartbeats 2000000 in
theorem Spare_c (B c N : Nat) (gb : Option Nat) (l : List Ver) (rev : Int) (w : World) (h : IsCh B c N gb l w) (hN : N ≤ 1000000) (ha : Asc l) :
    Calls Try.prog 53 #[.pointer (some ⟨c, 0, none⟩), .int .i64 rev] w fun e w' => e = .returned (.int .i64 (spr l rev : Nat)) ∧ Below w.heap.size w w' := by
  have HK := Lib.hid (kept_c B c N gb l w h hN)
  have hl := h.le
  have HU := Lib.hid (fun ao cap n hR => upTo_c ao cap l rev (w.drewN n) hR ha (by omega))
  have hcl := cnt_le l rev
  clear h
  by_cases h0 : cnt l rev = 0
  · have HS : Hid (spr l rev = 0) := by show _ = _; unfold spr; rw [if_pos h0]
    rw [h0] at HU
    rw [HS.out]
    clear h0 hcl
    go_enter Try.func53, Try.ntmps53
    go_wp2_with fail
    refine HK.out.mono ?_
    rintro e w' ⟨ao, cap, rfl, hR, n, rfl⟩
    have HR := Lib.hid (hR.go (bdrN w n))
    clear hR
    go_wp2_with fail
    refine (HU.out ao cap n HR.out).mono ?_
    rintro e w2 ⟨rfl, hb⟩
    have HB := Lib.hid hb
    clear hb
    go_wp2
    go_ret
    exact ⟨rfl, (bdrN w n).trans HB.out⟩
  · obtain ⟨m, hm⟩ : ∃ m, cnt l rev = m + 1 := ⟨cnt l rev - 1, by omega⟩
    have hml : m < l.length := by omega
    have HS : Hid (spr l rev = if l[m].2.2 = true then m + 1 else m) := by
      show _ = _; unfold spr; rw [if_neg h0, hm, show m + 1 - 1 = m by omega, gone_at hml]
    rw [hm] at HU
    rw [show ((m + 1 : Nat) : Int) = (m : Int) + 1 by omega] at HU
    have hm0 : (0 : Int) ≤ (m : Int) := by omega
    have hmi : (m : Int) < (l.length : Int) := by omega
    clear h0 hcl hm ha
    cases hgn : l[m].2.2 with
    | true =>
      rw [hgn, if_pos rfl] at HS
      rw [HS.out, show ((m + 1 : Nat) : Int) = (m : Int) + 1 by omega]
      have HGN := Lib.hid hgn
      clear hgn HS
      go_enter Try.func53, Try.ntmps53
      go_wp2_with fail
      refine HK.out.mono ?_
      rintro e w' ⟨ao, cap, rfl, hR, n, rfl⟩
      have HR := Lib.hid (hR.go (bdrN w n))
      clear hR
      go_wp2_with fail
      refine (HU.out ao cap n HR.out).mono ?_
      rintro e w2 ⟨rfl, hb⟩
      have HB := Lib.hid hb
      obtain ⟨g, off, rfl, hg, hat⟩ := rdv_at (HR.out.go hb) (by omega)
      obtain ⟨_, _, p2⟩ := hat m hml
      rw [HGN.out] at p2
      clear hb hat
      go_wp2
      go_ret
      exact ⟨rfl, (bdrN w n).trans HB.out⟩
    | false =>
      rw [hgn, if_neg (by decide)] at HS
      rw [HS.out]
      have HGN := Lib.hid hgn
      clear hgn HS
      go_enter Try.func53, Try.ntmps53
      go_wp2_with fail
      refine HK.out.mono ?_
      rintro e w' ⟨ao, cap, rfl, hR, n, rfl⟩
      have HR := Lib.hid (hR.go (bdrN w n))
      clear hR
      go_wp2_with fail
      refine (HU.out ao cap n HR.out).mono ?_
      rintro e w2 ⟨rfl, hb⟩
      have HB := Lib.hid hb
      obtain ⟨g, off, rfl, hg, hat⟩ := rdv_at (HR.out.go hb) (by omega)
      obtain ⟨_, _, p2⟩ := hat m hml
      rw [HGN.out] at p2
      clear hb hat
      go_wp2
      go_ret
      exact ⟨rfl, (bdrN w n).trans HB.out⟩
theorem frz {w : World} {g : Nat} {cs : Array Value} {t : TypeId} (h : w.heap[g]? = some (.cells cs t (0, 0))) (i : Nat) : w.frozen? ⟨g, i, none⟩ = false := by simp [World.frozen?, h]
theorem blk_set {w : World} {g : Nat} {cs : Array Value} {t : TypeId} (h : w.heap[g]? = some (.cells cs t (0, 0))) (i : Nat) (u : Value) : (w.setCell ⟨g, i, none⟩ u).heap[g]? = some (.cells (cs.setIfInBounds i u) t (0, 0)) := by
  rw [setCell_eq_setRow w g i cs t (0, 0) u h]
  have := setRow_heap w g cs (cs.setIfInBounds i u) t (0, 0) h
  simpa using this
theorem st3 {w : World} {g : Nat} {a b c : Value} {t : TypeId} (h : w.heap[g]? = some (.cells #[a, b, c] t (0, 0))) (x y z : Value) : (((w.setCell ⟨g, 0, none⟩ x).setCell ⟨g, 1, none⟩ y).setCell ⟨g, 2, none⟩ z).heap[g]? = some (.cells #[x, y, z] t (0, 0)) := by
  simpa using blk_set (blk_set (blk_set h 0 x) 1 y) 2 z
theorem cells3 {w : World} {g : Nat} {a b c : Value} {t : TypeId} (h : w.heap[g]? = some (.cells #[a, b, c] t (0, 0))) : w.cell? ⟨g, 0, none⟩ = some a ∧ w.cell? ⟨g, 1, none⟩ = some b ∧ w.cell? ⟨g, 2, none⟩ = some c := ⟨cell_of_row _ _ 0 _ _ _ h, cell_of_row _ _ 1 _ _ _ h, cell_of_row _ _ 2 _ _ _ h⟩
/-- three stores into a box of one's own -/
theorem box3 {w W V : World} {a b c : Value} {t : TypeId} (h : W.heap[w.heap.size]? = some (.cells #[a, b, c] t (0, 0))) (hB : Below w.heap.size w W) (hV : Below W.heap.size W V) (x y z : Value) :
    ∃ W2, W2 = ((V.setCell ⟨w.heap.size, 0, none⟩ x).setCell ⟨w.heap.size, 1, none⟩ y).setCell ⟨w.heap.size, 2, none⟩ z ∧ W2.cell? ⟨w.heap.size, 0, none⟩ = some x ∧ W2.cell? ⟨w.heap.size, 1, none⟩ = some y ∧ W2.cell? ⟨w.heap.size, 2, none⟩ = some z ∧ Below w.heap.size w W2 := by
  have hk : V.heap[w.heap.size]? = some (.cells #[a, b, c] t (0, 0)) := (hV.block _ (Array.getElem?_eq_some_iff.1 h).1).trans h
  obtain ⟨d0, d1, d2⟩ := cells3 (st3 hk x y z)
  exact ⟨_, rfl, d0, d1, d2, (((hB.trans (hV.mono hB.size)).setCell (Nat.le_refl _) _).setCell (Nat.le_refl _) _).setCell (Nat.le_refl _) _⟩
def vb (x : Ver) (b : Bool) : Value := .tuple #[aggV x, .bool b]
/-- the last one -/
def lastB (l : List Ver) : Bool := decide (0 < l.length)
def lastV (l : List Ver) : Ver := l.getD (l.length - 1) zeroV
set_option maxRecDepth 100000 in
set_option maxHeartbeats 2000000 in
theorem Last_c (B c N : Nat) (gb : Option Nat) (l : List Ver) (w : World) (h : IsCh B c N gb l w) (hN : N ≤ 1000000) :
    Calls Try.prog 59 #[.pointer (some ⟨c, 0, none⟩)] w fun e w' => e = .returned (vb (lastV l) (lastB l)) ∧ Below w.heap.size w w' := by
  obtain ⟨W0, hW0, hk0, hb0⟩ : ∃ W0, W0 = w.alloc (.cells #[.int .i64 0, .string ⟨#[]⟩, .bool false] 75) ∧ W0.heap[w.heap.size]? = some (.cells #[.int .i64 0, .string ⟨#[]⟩, .bool false] 75 (0, 0)) ∧ Below w.heap.size w W0 := ⟨_, rfl, heap_alloc_new w _, (Below.refl _ _).alloc (Nat.le_refl _) _⟩
  have hlt0 : w.heap.size < W0.heap.size := (Array.getElem?_eq_some_iff.1 hk0).1
  have HK := Lib.hid (kept_c B c N gb l W0 (h.go hb0) hN)
  have hl := h.le
  have HW0 := Lib.hid hW0
  have HB0 := Lib.hid hb0
  have c0 := cell_of_row _ _ 0 _ _ _ hk0
  have c1 := cell_of_row _ _ 1 _ _ _ hk0
  have c2 := cell_of_row _ _ 2 _ _ _ hk0
  simp at c0 c1 c2
  have f0 := frz hk0 0
  have f1 := frz hk0 1
  have f2 := frz hk0 2
  have HK0 := Lib.hid hk0
  clear h hW0 hb0 hk0
  by_cases hp : 0 < l.length
  · obtain ⟨m, hm⟩ : ∃ m, m = l.length - 1 := ⟨_, rfl⟩
    have hml : m < l.length := by omega
    have HL : Hid (lastV l = l[m]) := by show _ = _; unfold lastV; rw [← hm, getD_at hml]
    have HLB : Hid (lastB l = true) := by show _ = _; unfold lastB; simpa using hp
    have e1 : ((l.length : Int) - 1).toNat = m := by omega
    have e2 : (0 : Int) ≤ (l.length : Int) - 1 := by omega
    have e3 : (1 : Int) ≤ (l.length : Int) := by omega
    have e4 : (l.length : Int) - 1 < (l.length : Int) := by omega
    have e5 : ¬ (l.length : Int) = 0 := by omega
    rw [HL.out, HLB.out]
    clear hm
    go_enter Try.func59, Try.ntmps59
    go_wp2_with fail
    rw [← HW0.out]
    refine HK.out.mono ?_
    rintro e w' ⟨ao, cap, rfl, hR, n, rfl⟩
    obtain ⟨g, off, rfl, hg, hat⟩ := rdv_at hR hp
    obtain ⟨p0, p1, p2⟩ := hat m hml
    have HBX := Lib.hid (box3 HK0.out HB0.out (bdrN W0 n) (.int .i64 l[m].1) (.string l[m].2.1) (.bool l[m].2.2))
    clear hat hR HL HLB
    go_wp2
    obtain ⟨W2, hW2, d0, d1, d2, hb2⟩ := HBX.out
    rw [← hW2]
    exact bodyPost_ret (v := vb l[m] true) (by simp [results, Try.results59, go_sem, d0, d1, d2, vb, aggV]) rfl ⟨rfl, hb2⟩
  · have hl0 : l = [] := by
      have : l.length = 0 := by omega
      exact List.eq_nil_of_length_eq_zero this
    subst hl0
    go_enter Try.func59, Try.ntmps59
    go_wp2_with fail
    rw [← HW0.out]
    refine HK.out.mono ?_
    rintro e w' ⟨ao, cap, rfl, hR, n, rfl⟩
    have HBX := Lib.hid (box3 HK0.out HB0.out (bdrN W0 n) (.int .i64 0) (.string ⟨#[]⟩) (.bool false))
    go_wp2
    obtain ⟨W2, hW2, d0, d1, d2, hb2⟩ := HBX.out
    rw [← hW2]
    exact bodyPost_ret (v := vb zeroV false) (by simp [results, Try.results59, go_sem, d0, d1, d2, vb, aggV, zeroV]; rfl) rfl ⟨rfl, hb2⟩
set_option maxRecDepth 100000 in
set_option maxHeartbeats 2000000 in
theorem At_c (B c N : Nat) (gb : Option Nat) (l : List Ver) (rev : Int) (w : World) (h : IsCh B c N gb l w) (hN : N ≤ 1000000) (ha : Asc l) :
    Calls Try.prog 31 #[.pointer (some ⟨c, 0, none⟩), .int .i64 rev] w fun e w' => e = .returned (vb (atV l rev) (atB l rev)) ∧ Below w.heap.size w w' := by
  obtain ⟨W0, hW0, hk0, hb0⟩ : ∃ W0, W0 = w.alloc (.cells #[.int .i64 0, .string ⟨#[]⟩, .bool false] 75) ∧ W0.heap[w.heap.size]? = some (.cells #[.int .i64 0, .string ⟨#[]⟩, .bool false] 75 (0, 0)) ∧ Below w.heap.size w W0 := ⟨_, rfl, heap_alloc_new w _, (Below.refl _ _).alloc (Nat.le_refl _) _⟩
  have hlt0 : w.heap.size < W0.heap.size := (Array.getElem?_eq_some_iff.1 hk0).1
  have HK := Lib.hid (kept_c B c N gb l W0 (h.go hb0) hN)
  have hl := h.le
  have HU := Lib.hid (fun ao cap n hR => upTo_c ao cap l rev (W0.drewN n) hR ha (by omega))
  have hcl := cnt_le l rev
  have HW0 := Lib.hid hW0
  have HB0 := Lib.hid hb0
  have HK0 := Lib.hid hk0
  clear h hW0 hb0 hk0 ha
  by_cases h0 : cnt l rev = 0
  · have HL : Hid (atB l rev = false) := by show _ = _; unfold atB; rw [h0]; rfl
    have HV : Hid (atV l rev = zeroV) := by show _ = _; unfold atV; rw [HL.out]; rfl
    rw [HL.out, HV.out]
    rw [h0] at HU
    clear h0 hcl HL HV
    go_enter Try.func31, Try.ntmps31
    go_wp2_with fail
    rw [← HW0.out]
    refine HK.out.mono ?_
    rintro e w' ⟨ao, cap, rfl, hR, n, rfl⟩
    have HR := Lib.hid (hR.go (bdrN W0 n))
    clear hR
    go_wp2_with fail
    refine (HU.out ao cap n HR.out).mono ?_
    rintro e w2 ⟨rfl, hb⟩
    have HB2 : Hid (Below W0.heap.size W0 w2) := (bdrN W0 n).trans hb
    have hk2 := (HB2.out.block _ hlt0).trans HK0.out
    have f0 := frz hk2 0
    have f1 := frz hk2 1
    have f2 := frz hk2 2
    obtain ⟨c0, c1, c2⟩ := cells3 hk2
    have HBX := Lib.hid (box3 HK0.out HB0.out HB2.out (.int .i64 0) (.string ⟨#[]⟩) (.bool false))
    clear hb hk2
    go_wp2
    obtain ⟨W2, hW2, d0, d1, d2, hb2⟩ := HBX.out
    rw [← hW2]
    exact bodyPost_ret (v := vb zeroV false) (by simp [results, Try.results31, go_sem, d0, d1, d2, vb, aggV, zeroV]; rfl) rfl ⟨rfl, hb2⟩
  · obtain ⟨m, hm⟩ : ∃ m, cnt l rev = m + 1 := ⟨cnt l rev - 1, by omega⟩
    have hml : m < l.length := by omega
    have hga : goneAt l (cnt l rev - 1) = l[m].2.2 := by rw [hm, show m + 1 - 1 = m by omega, gone_at hml]
    have HL : Hid (atB l rev = !l[m].2.2) := by show _ = _; unfold atB; rw [hga, decide_eq_true (by omega), Bool.true_and]
    have HG : Hid (l.getD (cnt l rev - 1) zeroV = l[m]) := by show _ = _; rw [hm, show m + 1 - 1 = m by omega, getD_at hml]
    rw [hm] at HU
    rw [show ((m + 1 : Nat) : Int) = (m : Int) + 1 by omega] at HU
    have hm0 : (0 : Int) ≤ (m : Int) := by omega
    have hmi : (m : Int) < (l.length : Int) := by omega
    clear h0 hcl hm hga
    cases hgn : l[m].2.2 with
    | true =>
      rw [hgn] at HL
      have HV : Hid (atV l rev = zeroV) := by show _ = _; unfold atV; rw [HL.out]; rfl
      rw [HL.out, HV.out]
      have HGN := Lib.hid hgn
      clear hgn HL HV HG
      go_enter Try.func31, Try.ntmps31
      go_wp2_with fail
      rw [← HW0.out]
      refine HK.out.mono ?_
      rintro e w' ⟨ao, cap, rfl, hR, n, rfl⟩
      have HR := Lib.hid (hR.go (bdrN W0 n))
      clear hR
      go_wp2_with fail
      refine (HU.out ao cap n HR.out).mono ?_
      rintro e w2 ⟨rfl, hb⟩
      have HB2 : Hid (Below W0.heap.size W0 w2) := (bdrN W0 n).trans hb
      have hk2 := (HB2.out.block _ hlt0).trans HK0.out
      have f0 := frz hk2 0
      have f1 := frz hk2 1
      have f2 := frz hk2 2
      obtain ⟨c0, c1, c2⟩ := cells3 hk2
      have HBX := Lib.hid (box3 HK0.out HB0.out HB2.out (.int .i64 0) (.string ⟨#[]⟩) (.bool false))
      obtain ⟨g, off, rfl, hg, hat⟩ := rdv_at (HR.out.go hb) (by omega)
      obtain ⟨p0, p1, p2⟩ := hat m hml
      rw [HGN.out] at p2
      clear hb hk2 hat p0 p1 HGN
      go_wp2
      obtain ⟨W2, hW2, d0, d1, d2, hb2⟩ := HBX.out
      rw [← hW2]
      exact bodyPost_ret (v := vb zeroV false) (by simp [results, Try.results31, go_sem, d0, d1, d2, vb, aggV, zeroV]; rfl) rfl ⟨rfl, hb2⟩
    | false =>
      rw [hgn] at HL
      have HV : Hid (atV l rev = l[m]) := by show _ = _; unfold atV; rw [HL.out, HG.out]; rfl
      rw [HL.out, HV.out]
      have HGN := Lib.hid hgn
      clear hgn HL HV HG
      go_enter Try.func31, Try.ntmps31
      go_wp2_with fail
      rw [← HW0.out]
      refine HK.out.mono ?_
      rintro e w' ⟨ao, cap, rfl, hR, n, rfl⟩
      have HR := Lib.hid (hR.go (bdrN W0 n))
      clear hR
      go_wp2_with fail
      refine (HU.out ao cap n HR.out).mono ?_
      rintro e w2 ⟨rfl, hb⟩
      have HB2 : Hid (Below W0.heap.size W0 w2) := (bdrN W0 n).trans hb
      have hk2 := (HB2.out.block _ hlt0).trans HK0.out
      have f0 := frz hk2 0
      have f1 := frz hk2 1
      have f2 := frz hk2 2
      obtain ⟨c0, c1, c2⟩ := cells3 hk2
      have HBX := Lib.hid (box3 HK0.out HB0.out HB2.out (.int .i64 l[m].1) (.string l[m].2.1) (.bool false))
      obtain ⟨g, off, rfl, hg, hat⟩ := rdv_at (HR.out.go hb) (by omega)
      obtain ⟨p0, p1, p2⟩ := hat m hml
      rw [HGN.out] at p2
      clear hb hk2 hat
      go_wp2
      obtain ⟨W2, hW2, d0, d1, d2, hb2⟩ := HBX.out
      rw [← hW2]
      exact bodyPost_ret (v := vb l[m] true) (by simp [results, Try.results31, go_sem, d0, d1, d2, vb, aggV, HGN.out]) rfl ⟨rfl, hb2⟩
end Go.Proofs.Ytjceofkcahfhmaa.Cn
namespace Go.Proofs.Ytjceofkcahfhmaa.Cn
open Go.RowKit Go.Lib Go.Shelf Go.Sort
set_option linter.unusedSimpArgs false
set_option linter.unusedVariables false

theorem infoC : (Try.prog.info? 75).map (fun i => (i.zero, i.size, i.bytes)) = some (some (.agg #[.int .i64 0, .string ⟨#[]⟩, .bool false]), 3, 32) := by kernel_rfl
theorem OwV.mono {T : TypeId} {B B' : Nat} {v : Value} {l : List Ver} {w : World} (h : OwV T B v l w) (hB : B' ≤ B) : OwV T B' v l w := by
  obtain ⟨h1, h2⟩ := h
  refine ⟨h1, ?_⟩
  rcases h2 with h2 | ⟨g, cap, cur, hv, hb, rest⟩
  · exact .inl h2
  · exact .inr ⟨g, cap, cur, hv, Nat.le_trans hB hb, rest⟩
/-- the cells of versions that can be read, one behind the other -/
theorem rdv_cells {g off cap n : Nat} {l : List Ver} {w : World} (h : RdV (.slice (some ⟨g, off, none⟩) n cap) l w) : ∀ j u, (vC l)[j]? = some u → w.cell? ((⟨g, off, none⟩ : Addr).add j) = some u := by
  intro j u hu
  have ea : (⟨g, off, none⟩ : Addr).add j = ⟨g, off + j, none⟩ := by unfold Addr.add; split <;> simp_all
  rw [ea]
  have hj : j < l.length * 3 := by
    rcases Nat.lt_or_ge j (l.length * 3) with h | h
    · exact h
    · rw [List.getElem?_eq_none (by rw [vC_len]; exact h)] at hu; cases hu
  have hq : j / 3 < l.length := by omega
  obtain ⟨g', off', e, _, hat⟩ := rdv_at h (by omega)
  injection e with e
  injection e with e1 e2
  subst e1 e2
  obtain ⟨a0, a1, a2⟩ := vC_at l (j / 3) hq
  obtain ⟨b0, b1, b2⟩ := hat (j / 3) hq
  have hm : j % 3 = 0 ∨ j % 3 = 1 ∨ j % 3 = 2 := by omega
  rcases hm with h | h | h
  · have ej : j = j / 3 * 3 := by omega
    rw [ej] at hu ⊢
    rw [b0, ← a0, hu]
  · have ej : j = j / 3 * 3 + 1 := by omega
    rw [ej] at hu ⊢
    rw [← Nat.add_assoc, b1, ← a1, hu]
  · have ej : j = j / 3 * 3 + 2 := by omega
    rw [ej] at hu ⊢
    rw [← Nat.add_assoc, b2, ← a2, hu]
end Go.Proofs.Ytjceofkcahfhmaa.Cn
namespace Go.Proofs.Ytjceofkcahfhmaa.Cn
open Go.RowKit Go.Lib Go.Shelf Go.Sort
set_option linter.unusedSimpArgs false
set_option linter.unusedVariables false

/-- what a call on a chain changes: the chain's block, the row's block -/
structure Chg (c : Nat) (gb : Option Nat) (w w' : World) : Prop where
  os : w'.os = w.os
  tape : w'.tape = w.tape
  output : w'.output = w.output
  size : w.heap.size ≤ w'.heap.size
  block : ∀ k, k < w.heap.size → k ≠ c → some k ≠ gb → w'.heap[k]? = w.heap[k]?
theorem Chg.of {c : Nat} {gb : Option Nat} {w w' : World} (h : Below w.heap.size w w') : Chg c gb w w' := ⟨h.os, h.tape, h.output, h.size, fun k hk _ _ => h.block k hk⟩
/-- the row's block behind a call: as it was, or new -/
def NewB (gb gb' : Option Nat) (w : World) : Prop := gb' = gb ∨ gb' = none ∨ ∃ g, gb' = some g ∧ w.heap.size ≤ g
theorem Chg.trans {c : Nat} {gb gb' : Option Nat} {a b d : World} (h : Chg c gb a b) (hn : NewB gb gb' a) (k : Chg c gb' b d) : Chg c gb a d := by
  refine ⟨k.os.trans h.os, k.tape.trans h.tape, k.output.trans h.output, Nat.le_trans h.size k.size, fun i hi hc hg => ?_⟩
  rw [k.block i (Nat.lt_of_lt_of_le hi h.size) hc ?_, h.block i hi hc hg]
  rcases hn with rfl | rfl | ⟨g, rfl, hge⟩
  · exact hg
  · intro e; cases e
  · intro e; injection e with e; omega
theorem NewB.trans {g1 g2 g3 : Option Nat} {a b : World} (h : NewB g1 g2 a) (k : NewB g2 g3 b) (hs : a.heap.size ≤ b.heap.size) : NewB g1 g3 a := by
  rcases k with rfl | rfl | ⟨g, rfl, hge⟩
  · exact h
  · exact .inr (.inl rfl)
  · exact .inr (.inr ⟨g, rfl, Nat.le_trans hs hge⟩)
theorem Chg.below {c : Nat} {gb : Option Nat} {B : Nat} {w w' : World} (h : Chg c gb w w') (hB : B ≤ w.heap.size) (hc : B ≤ c) (hg : ∀ g, gb = some g → B ≤ g) : Below B w w' :=
  ⟨h.os, h.tape, h.output, h.size, fun k hk => h.block k (by omega) (by omega) (fun e => by have := hg k e.symm; omega)⟩
theorem IsCh.base {B c N : Nat} {gb : Option Nat} {l : List Ver} {w : World} (h : IsCh B c N gb l w) : ∀ g, gb = some g → B ≤ g ∧ g < w.heap.size := by
  obtain ⟨v, all, k, h1, h2, h3, h4, h5, h6⟩ := h
  intro g hg
  exact World.ownsRow.lt h6 g (h1.trans hg)
theorem IsCh.lt {B c N : Nat} {gb : Option Nat} {l : List Ver} {w : World} (h : IsCh B c N gb l w) : c < w.heap.size := by
  obtain ⟨v, all, k, h1, h2, h3, h4, h5, h6⟩ := h
  exact (Array.getElem?_eq_some_iff.1 h5).1
theorem IsCh.up {B c N N' : Nat} {gb : Option Nat} {l : List Ver} {w : World} (h : IsCh B c N gb l w) (hN : N ≤ N') : IsCh B c N' gb l w := by
  obtain ⟨v, all, k, h1, h2, h3, h4, h5, h6⟩ := h
  exact ⟨v, all, k, h1, h2, by omega, h4, h5, h6⟩
def PtQ (B c N : Nat) (gb : Option Nat) (l : List Ver) (r : Int) (w : World) (e : Ending) (w' : World) : Prop := e = .returned (.int .i64 r) ∧ ∃ gb', IsCh B c N gb' l w' ∧ Chg c gb w w' ∧ NewB gb gb' w
theorem ptq_same {B c N : Nat} {gb : Option Nat} {l : List Ver} {r : Int} {w w' : World} {e : Ending} (h : IsCh B c N gb l w) (hb : Below w.heap.size w w') (he : e = .returned (.int .i64 r)) : PtQ B c N gb l r w e w' :=
  ⟨he, gb, h.go hb, Chg.of hb, .inl rfl⟩
theorem new3 (w : World) (x y z : Value) (T : TypeId) : ∃ W, W = w.alloc (.cells #[x, y, z] T) ∧ W.heap[w.heap.size]? = some (.cells #[x, y, z] T (0, 0)) ∧ Below w.heap.size w W := ⟨_, rfl, heap_alloc_new w _, (Below.refl _ _).alloc (Nat.le_refl _) _⟩
set_option maxRecDepth 100000 in
set_option maxHeartbeats 2000000 in
theorem put_arg (B c N : Nat) (gb : Option Nat) (l : List Ver) (v : Ver) (w : World) (h : IsCh B c N gb l w) (hN : N ≤ 1000000) (hr : v.1 < 1 ∨ 9007199254740991 < v.1) :
    Calls Try.prog 52 #[.pointer (some ⟨c, 0, none⟩), aggV v] w (PtQ B c N gb l 1 w) := by
  obtain ⟨v1, v2, v3⟩ := v
  simp only at hr
  obtain ⟨W0, hW0, hk0, hb0⟩ := new3 w (.int .i64 v1) (.string v2) (.bool v3) 75
  obtain ⟨c0, c1, c2⟩ := cells3 hk0
  have HW0 := Lib.hid hW0
  have HB0 := Lib.hid hb0
  have H := Lib.hid h
  clear hW0 hb0 hk0 h
  have hlt : w.heap.size < w.heap.size + 1 := by omega
  unfold aggV
  rcases hr with hr | hr
  · go_enter Try.func52, Try.ntmps52
    go_wp2
    go_ret
    exact ptq_same H.out ((Below.refl _ _).alloc (Nat.le_refl _) _) rfl
  · have hr2 : ¬ v1 < 1 := by omega
    go_enter Try.func52, Try.ntmps52
    go_wp2
    go_ret
    exact ptq_same H.out ((Below.refl _ _).alloc (Nat.le_refl _) _) rfl
end Go.Proofs.Ytjceofkcahfhmaa.Cn
namespace Go.Proofs.Ytjceofkcahfhmaa.Cn
open Go.RowKit Go.Lib Go.Shelf Go.Sort
set_option linter.unusedSimpArgs false
set_option linter.unusedVariables false

set_option maxRecDepth 100000 in
set_option maxHeartbeats 2000000 in
theorem put_state (B c N : Nat) (gb : Option Nat) (l : List Ver) (v : Ver) (w : World) (h : IsCh B c N gb l w) (hN : N ≤ 1000000) (h1 : 1 ≤ v.1) (h2 : v.1 ≤ 9007199254740991) (hl : lastB l = true) (hv : v.1 ≤ (lastV l).1) :
    Calls Try.prog 52 #[.pointer (some ⟨c, 0, none⟩), aggV v] w (PtQ B c N gb l 10 w) := by
  obtain ⟨v1, v2, v3⟩ := v
  simp only at h1 h2 hv
  obtain ⟨W0, hW0, hk0, hb0⟩ := new3 w (.int .i64 v1) (.string v2) (.bool v3) 75
  have HL := Lib.hid (Last_c B c N gb l W0 (h.go hb0) hN)
  rw [hl] at HL
  unfold vb aggV at HL
  have HW0 := Lib.hid hW0
  have HB0 := Lib.hid hb0
  have HK0 := Lib.hid hk0
  have H := Lib.hid h
  obtain ⟨c0, c1, c2⟩ := cells3 hk0
  clear hW0 hb0 hk0 h hl
  have hlt : w.heap.size < w.heap.size + 1 := by omega
  revert HL hv
  generalize lastV l = x
  obtain ⟨x1, x2, x3⟩ := x
  intro hv HL
  simp only at HL hv
  have hr1 : ¬ v1 < 1 := by omega
  have hr2 : ¬ 9007199254740991 < v1 := by omega
  unfold aggV
  go_enter Try.func52, Try.ntmps52
  go_wp2_with fail
  rw [← HW0.out]
  refine HL.out.mono ?_
  rintro e w1 ⟨rfl, hb1⟩
  have HB1 := Lib.hid hb1
  have hk1 := (hb1.block _ (Array.getElem?_eq_some_iff.1 HK0.out).1).trans HK0.out
  obtain ⟨W1, hW1, hkx, hbx⟩ := new3 w1 (.int .i64 x1) (.string x2) (.bool x3) 75
  have hk2 := (hbx.block _ (Array.getElem?_eq_some_iff.1 hk1).1).trans hk1
  obtain ⟨d0, d1, d2⟩ := cells3 hk1
  have hlt1 : w.heap.size < w1.heap.size := (Array.getElem?_eq_some_iff.1 hk1).1
  have hne1 : ¬ w.heap.size = w1.heap.size := by omega
  have HBX := Lib.hid hbx
  have HW1 := Lib.hid hW1
  have HLT := Lib.hid HB0.out.size
  clear hb1 hk1 hkx hbx hW1 hk2 c0 c1 c2 hlt
  go_wp2
  go_ret
  refine ptq_same H.out ?_ rfl
  rw [← HW1.out]
  have hb := HB0.out.trans (HB1.out.mono HLT.out)
  exact hb.trans (HBX.out.mono hb.size)
end Go.Proofs.Ytjceofkcahfhmaa.Cn
namespace Go.Proofs.Ytjceofkcahfhmaa.Cn
open Go.RowKit Go.Lib Go.Shelf Go.Sort
set_option linter.unusedSimpArgs false
set_option linter.unusedVariables false

theorem addr0 (g j : Nat) : (⟨g, 0, none⟩ : Addr).add j = ⟨g, j, none⟩ := by unfold Addr.add; split <;> simp_all
theorem enc_cell {W : World} {g : Nat} {v1 : Int} {v2 : ByteArray} {v3 : Bool} {T : TypeId} (h : W.heap[g]? = some (.cells #[.int .i64 v1, .string v2, .bool v3] T (0, 0))) : ∀ j u, (encV (v1, v2, v3))[j]? = some u → W.cell? ((⟨g, 0, none⟩ : Addr).add j) = some u := by
  intro j u hu
  rw [addr0, cell_of_row _ _ j _ _ _ h, ← hu]
  match j with
  | 0 => rfl
  | 1 => rfl
  | 2 => rfl
  | j + 3 => simp [encV]
theorem own_ne {T T2 : TypeId} {B c n k : Nat} {v : Value} {xs : List Value} {w : World} {cs : Array Value} (h : w.ownsRow B T k v n xs) (hc : w.heap[c]? = some (.cells cs T2 (0, 0))) (hT : T ≠ T2) : some c ≠ v.ownBlock := by
  intro e
  rcases h.2 with ⟨hv, _⟩ | ⟨g, cap, cur, hv, _, hgh, _⟩
  · rw [hv] at e; cases e
  · rw [hv] at e
    injection e with e
    have e2 : c = g := e
    subst e2
    rw [hgh] at hc
    injection hc with hc
    injection hc with _ hc
    exact hT hc
theorem own_set {T T2 : TypeId} {B c n k : Nat} {v : Value} {xs : List Value} {w : World} {cs : Array Value} (h : w.ownsRow B T k v n xs) (hc : w.heap[c]? = some (.cells cs T2 (0, 0))) (hT : T ≠ T2) (i : Nat) (u : Value) : (w.setCell ⟨c, i, none⟩ u).ownsRow B T k v n xs := by
  refine World.ownsRow.kept h (row := some c) ⟨rfl, rfl, rfl, by simp [World.setCell], fun q hq hne => ?_⟩ (.inr (fun e => own_ne h hc hT e.symm))
  exact Below.heap_setCell _ _ _ _ (fun e => hne (by rw [e]))
/-- a version more, stored into the chain's block -/
theorem put_end {B c N k g capA : Nat} {gb : Option Nat} {l all : List Ver} {v : Ver} {ao : Option Addr} {cap : Nat} {w W1 WX V : World} (G1 : (Value.slice ao all.length cap).ownBlock = gb) (g2 : k ≤ all.length) (g3 : all.length ≤ N) (G4 : all.drop k = l) (HB : Below w.heap.size w W1) (HBX : Below W1.heap.size W1 WX)
    (HG5 : W1.heap[c]? = some (.cells #[.slice ao all.length cap, .int .i64 (k : Int)] 108 (0, 0))) (hne : some c ≠ (Value.slice ao all.length cap).ownBlock)
    (hown : V.ownsRow B 75 3 (.slice (some ⟨g, 0, none⟩) (all.length + 1) capA) (all.length + 1) (vC all ++ encV v)) (hgrow : WX.grownBy V (Value.slice ao all.length cap).ownBlock) (hat : (Value.slice ao all.length cap).ownBlock = some g ∨ g = WX.heap.size) :
    PtQ B c (N + 1) gb (l ++ [v]) 0 w (.returned (.int .i64 0)) (V.setCell ⟨c, 0, none⟩ (.slice (some ⟨g, 0, none⟩) (all.length + 1) capA)) := by
  have hcX : WX.heap[c]? = some (.cells #[.slice ao all.length cap, .int .i64 (k : Int)] 108 (0, 0)) := (HBX.block _ (Array.getElem?_eq_some_iff.1 HG5).1).trans HG5
  have hcV : V.heap[c]? = some (.cells #[.slice ao all.length cap, .int .i64 (k : Int)] 108 (0, 0)) := (hgrow.block _ (Array.getElem?_eq_some_iff.1 hcX).1 hne).trans hcX
  have hS := blk_set hcV 0 (.slice (some ⟨g, 0, none⟩) (all.length + 1) capA)
  have hO := own_set hown hcV (by decide) 0 (.slice (some ⟨g, 0, none⟩) (all.length + 1) capA)
  refine ⟨rfl, some g, ⟨.slice (some ⟨g, 0, none⟩) (all.length + 1) capA, all ++ [v], k, rfl, by simp; omega, by simp; omega, ?_, by simpa using hS, ?_⟩, ⟨?_, ?_, ?_, ?_, ?_⟩, ?_⟩
  · rw [List.drop_append_of_le_length g2, G4]
  · show World.ownsRow _ _ _ _ _ _ _
    rw [vC_snoc, List.length_append]
    exact hO
  · exact (hgrow.os.trans HBX.os).trans HB.os
  · exact (hgrow.tape.trans HBX.tape).trans HB.tape
  · exact (hgrow.output.trans HBX.output).trans HB.output
  · have := HB.size; have := HBX.size; have := hgrow.size
    simp [World.setCell]; omega
  · intro q hq hqc hqg
    have h1 := HB.size; have h2 := HBX.size
    rw [Below.heap_setCell _ _ _ _ hqc, hgrow.block q (by omega) (by rw [G1]; exact hqg), HBX.block q (by omega), HB.block q hq]
  · rcases hat with h | h
    · exact .inl (by rw [← h, G1])
    · have h1 := HB.size; have h2 := HBX.size
      exact .inr (.inr ⟨g, rfl, by omega⟩)
set_option maxRecDepth 100000 in
set_option maxHeartbeats 4000000 in
theorem put_ok (B c N : Nat) (gb : Option Nat) (l : List Ver) (v : Ver) (w : World) (h : IsCh B c N gb l w) (hN : N + 1 ≤ 1000000) (hB : B ≤ w.heap.size) (h1 : 1 ≤ v.1) (h2 : v.1 ≤ 9007199254740991) (b : Bool) (hl : lastB l = b) (hv : b = true → (lastV l).1 < v.1) :
    Calls Try.prog 52 #[.pointer (some ⟨c, 0, none⟩), aggV v] w (PtQ B c (N + 1) gb (l ++ [v]) 0 w) := by
  obtain ⟨v1, v2, v3⟩ := v
  simp only at h1 h2 hv
  obtain ⟨i0, hi, hz0, hz1, hz2⟩ := info_parts infoC
  obtain ⟨W0, hW0, hk0, hb0⟩ := new3 w (.int .i64 v1) (.string v2) (.bool v3) 75
  have HL := Lib.hid (Last_c B c N gb l W0 (h.go hb0) (by omega))
  rw [hl] at HL
  unfold vb aggV at HL
  have HW0 := Lib.hid hW0
  have HB0 := Lib.hid hb0
  have HK0 := Lib.hid hk0
  have H := Lib.hid h
  obtain ⟨c0, c1, c2⟩ := cells3 hk0
  clear hW0 hb0 hk0 h hl
  have hlt : w.heap.size < w.heap.size + 1 := by omega
  revert hv HL
  generalize lastV l = x
  obtain ⟨x1, x2, x3⟩ := x
  intro hv HL
  simp only at HL hv
  have HV := Lib.hid hv
  clear hv
  have hr1 : ¬ v1 < 1 := by omega
  have hr2 : ¬ 9007199254740991 < v1 := by omega
  unfold aggV
  go_enter Try.func52, Try.ntmps52
  go_wp2_with fail
  rw [← HW0.out]
  refine HL.out.mono ?_
  rintro e w1 ⟨rfl, hb1⟩
  have HB1 := Lib.hid hb1
  have hk1 := (hb1.block _ (Array.getElem?_eq_some_iff.1 HK0.out).1).trans HK0.out
  obtain ⟨W1, hW1, hkx, hbx⟩ := new3 w1 (.int .i64 x1) (.string x2) (.bool x3) 75
  have hk2 := (hbx.block _ (Array.getElem?_eq_some_iff.1 hk1).1).trans hk1
  have hlt1 : w.heap.size < w1.heap.size := (Array.getElem?_eq_some_iff.1 hk1).1
  have hltx : w.heap.size < W1.heap.size := (Array.getElem?_eq_some_iff.1 hk2).1
  have hne1 : ¬ w.heap.size = w1.heap.size := by omega
  have HBW : Hid (Below w.heap.size w W1) := by
    have hb := HB0.out.trans (hb1.mono HB0.out.size)
    exact hb.trans (hbx.mono hb.size)
  obtain ⟨sv, all, k, g1, g2, g3, g4, g5, g6⟩ := H.out.go HBW.out
  obtain ⟨WX, hWX, hkX, hbX⟩ : ∃ WX, WX = (W1.alloc (.cells #[.int .i64 v1, .string v2, .bool v3] 75)).drew ∧ WX.heap[W1.heap.size]? = some (.cells #[.int .i64 v1, .string v2, .bool v3] 75 (0, 0)) ∧ Below W1.heap.size W1 WX := ⟨_, rfl, heap_alloc_new W1 _, ((Below.refl _ _).alloc (Nat.le_refl _) _).drew⟩
  have HBX := Lib.hid hbX
  have HWX := Lib.hid hWX
  have HO := Lib.hid (g6.go hbX)
  have HOW := Lib.hid g6
  have HW1 := Lib.hid hW1
  have HC := Lib.hid (enc_cell hkX)
  have D3 : Hid (all.length + 1 ≤ maxLen) := by show _ ≤ _; unfold maxLen; omega
  have D4 : Hid ((all.length + 1) * 32 ≤ 140737488355328) := by show _ ≤ _; omega
  have D5 : Hid (B ≤ WX.heap.size) := by have a := HBW.out.size; have b := hbX.size; show _ ≤ _; omega
  have G1 := Lib.hid g1
  have G4 := Lib.hid g4
  have HLO : Hid (∀ q, sv.ownBlock = some q → B ≤ q ∧ q < W1.heap.size) := World.ownsRow.lt g6
  have HG5 := Lib.hid g5
  have HKX := Lib.hid hkX
  have hcW : c < w.heap.size := H.out.lt
  have hcW1 : c < W1.heap.size := by omega
  have hcW2 : ¬ c = W1.heap.size := by omega
  have e0 := cell_of_row _ _ 0 _ _ _ g5
  have e1 := cell_of_row _ _ 1 _ _ _ g5
  simp at e0 e1
  have f0 := frz g5 0
  obtain ⟨d0, d1, d2⟩ := cells3 hk1
  obtain ⟨p0, p1, p2⟩ := cells3 hk2
  obtain ⟨ao, cap, hsv⟩ : ∃ ao cap, sv = .slice ao all.length cap := by
    rcases own_slV g6 with ⟨e, h0⟩ | ⟨g, cp, e, _⟩
    · exact ⟨none, 0, by rw [e, h0]⟩
    · exact ⟨_, _, e⟩
  subst hsv
  clear hb1 hk1 hkx hbx hW1 hk2 c0 c1 c2 hlt hWX hkX hbX g1 g4 g5 g6
  have HNE : Hid (some c ≠ (Value.slice ao all.length cap).ownBlock) := own_ne HOW.out HG5.out (by decide)
  have HKC : Hid (WX.heap[c]? = some (.cells #[.slice ao all.length cap, .int .i64 (k : Int)] 108 (0, 0))) := (HBX.out.block _ (Array.getElem?_eq_some_iff.1 HG5.out).1).trans HG5.out
  have HCX : Hid (c < WX.heap.size) := (Array.getElem?_eq_some_iff.1 HKC.out).1
  cases b with
  | true =>
    have hv1 := HV.out rfl
    have hv2 : ¬ v1 ≤ x1 := by omega
    clear HV
    go_wp2_with fail
    rw [← HW1.out]
    go_region_law (rw [← HWX.out]; refine step_append_lies _ rfl _ _ 98 rfl B 75 i0 _ 3 32 Try.underlying98 hi hz0 hz1 hz2 rfl (by decide) _ _ _ rfl HO.out ⟨W1.heap.size, 0, none⟩ 1 1 (encV (v1, v2, v3)) rfl rfl HC.out (enc_ok _) (by decide) D3.out D4.out D5.out WX.heap.size rfl ?_; intro g capA V hown hgrow hat hlt; have hcV : V.heap[c]? = some (.cells #[.slice ao all.length cap, .int .i64 (k : Int)] 108 (0, 0)) := (hgrow.block _ HCX.out HNE.out).trans HKC.out; have e0' := cell_of_row _ _ 0 _ _ _ hcV; simp at e0'; have f0' := frz hcV 0; have HOWN := Lib.hid hown; have HGROW := Lib.hid hgrow; have HAT := Lib.hid hat; clear hown hgrow hat hlt hcV)
    all_goals
      go_wp2
      go_ret
      exact put_end G1.out g2 g3 G4.out HBW.out HBX.out HG5.out HNE.out HOWN.out HGROW.out HAT.out
  | false =>
    clear HV
    go_wp2_with fail
    rw [← HW1.out]
    go_region_law (rw [← HWX.out]; refine step_append_lies _ rfl _ _ 98 rfl B 75 i0 _ 3 32 Try.underlying98 hi hz0 hz1 hz2 rfl (by decide) _ _ _ rfl HO.out ⟨W1.heap.size, 0, none⟩ 1 1 (encV (v1, v2, v3)) rfl rfl HC.out (enc_ok _) (by decide) D3.out D4.out D5.out WX.heap.size rfl ?_; intro g capA V hown hgrow hat hlt; have hcV : V.heap[c]? = some (.cells #[.slice ao all.length cap, .int .i64 (k : Int)] 108 (0, 0)) := (hgrow.block _ HCX.out HNE.out).trans HKC.out; have e0' := cell_of_row _ _ 0 _ _ _ hcV; simp at e0'; have f0' := frz hcV 0; have HOWN := Lib.hid hown; have HGROW := Lib.hid hgrow; have HAT := Lib.hid hat; clear hown hgrow hat hlt hcV)
    all_goals
      go_wp2
      go_ret
      exact put_end G1.out g2 g3 G4.out HBW.out HBX.out HG5.out HNE.out HOWN.out HGROW.out HAT.out
end Go.Proofs.Ytjceofkcahfhmaa.Cn
namespace Go.Proofs.Ytjceofkcahfhmaa.Cn
open Go.RowKit Go.Lib Go.Shelf Go.Sort
set_option linter.unusedSimpArgs false
set_option linter.unusedVariables false

theorem vC_take (l : List Ver) (k : Nat) (hk : k ≤ l.length) : (vC l).take (k * 3) = vC (l.take k) := by
  have h : vC l = vC (l.take k) ++ vC (l.drop k) := by rw [← vC_app, List.take_append_drop]
  rw [h, List.take_left' (by rw [vC_len, List.length_take]; omega)]
theorem vC_drop (l : List Ver) (k : Nat) (hk : k ≤ l.length) : (vC l).drop (k * 3) = vC (l.drop k) := by
  have h : vC l = vC (l.take k) ++ vC (l.drop k) := by rw [← vC_app, List.take_append_drop]
  rw [h, List.drop_left' (by rw [vC_len, List.length_take]; omega)]
/-- s of them made nothing, from k on -/
def wipe (all : List Ver) (k s : Nat) : List Ver := all.take k ++ List.replicate s zeroV ++ all.drop (k + s)
theorem wipe_len {all : List Ver} {k s : Nat} (h : k + s ≤ all.length) : (wipe all k s).length = all.length := by unfold wipe; simp; omega
theorem wipe_drop {all : List Ver} {k s : Nat} (h : k + s ≤ all.length) : (wipe all k s).drop (k + s) = all.drop (k + s) := by
  unfold wipe
  rw [List.drop_left' (by simp; omega)]
theorem wipe_cells {all : List Ver} {k s : Nat} (h : k + s ≤ all.length) {cur : List Value} (hc : cur.take (all.length * 3) = vC all) :
    (cur.take (k * 3) ++ vC (List.replicate s zeroV) ++ cur.drop (k * 3 + s * 3)).take (all.length * 3) = vC (wipe all k s) := by
  have h1 : cur = vC all ++ cur.drop (all.length * 3) := by rw [← hc, List.take_append_drop]
  have hl : (vC all).length = all.length * 3 := vC_len all
  have h2 : cur.take (k * 3) = vC (all.take k) := by
    rw [h1, List.take_append_of_le_length (by omega), vC_take _ _ (by omega)]
  have h3 : cur.drop (k * 3 + s * 3) = vC (all.drop (k + s)) ++ cur.drop (all.length * 3) := by
    rw [show k * 3 + s * 3 = (k + s) * 3 by omega]
    conv => lhs; rw [h1]
    rw [List.drop_append_of_le_length (by omega), vC_drop _ _ h]
  rw [h2, h3, ← List.append_assoc, ← vC_app, ← vC_app]
  have h4 : (vC (wipe all k s)).length = all.length * 3 := by rw [vC_len, wipe_len h]
  exact List.take_left' h4
set_option maxHeartbeats 1000000 in
theorem run_clear (w : World) (ty : TypeId) (g k s c2 : Nat) (cur : Array Value) (hs : 0 < s) (hg : w.heap[g]? = some (.cells cur 75 (0, 0))) (hle : (k + s) * 3 ≤ cur.size) :
    (Builtin.clear_ #[98] ty #[.slice (some ⟨g, k * 3, none⟩) s c2]).run Try.prog w = .ok (.tuple #[]) (w.setRow g (cur.toList.take (k * 3) ++ vC (List.replicate s zeroV) ++ cur.toList.drop (k * 3 + s * 3)).toArray) := by
  have hz : ∀ w, (zeroValue 75).run Try.prog w = .ok (.agg #[.int .i64 0, .string ⟨#[]⟩, .bool false]) w := Try.zeroValue75
  have hzc : (Builtin.zeroCells (Value.agg #[.int .i64 0, .string ⟨#[]⟩, .bool false]).cells s).toList = vC (List.replicate s zeroV) := by
    have e : (Value.agg #[.int .i64 0, .string ⟨#[]⟩, .bool false]).cells = #[.int .i64 0, .string ⟨#[]⟩, .bool false] := rfl
    rw [e]
    unfold Builtin.zeroCells
    apply List.ext_getElem
    · simp [vC_len]
    · intro j h1 h2
      have hj : j < s * 3 := by simpa using h1
      have hq : j / 3 < (List.replicate s zeroV).length := by rw [List.length_replicate]; omega
      obtain ⟨a0, a1, a2⟩ := vC_at (List.replicate s zeroV) (j / 3) hq
      rw [List.getElem_replicate] at a0 a1 a2
      have hr : (vC (List.replicate s zeroV))[j]? = some (vC (List.replicate s zeroV))[j] := List.getElem?_eq_getElem h2
      have hm : j % 3 = 0 ∨ j % 3 = 1 ∨ j % 3 = 2 := by omega
      rcases hm with h | h | h
      · have ej : j = j / 3 * 3 := by omega
        have hr2 : (vC (List.replicate s zeroV))[j]? = some (.int .i64 0) := by rw [ej]; exact a0
        rw [hr] at hr2
        injection hr2 with hr2
        rw [hr2]; simp [h]
      · have ej : j = j / 3 * 3 + 1 := by omega
        have hr2 : (vC (List.replicate s zeroV))[j]? = some (.string ByteArray.empty) := by rw [ej]; exact a1
        rw [hr] at hr2
        injection hr2 with hr2
        rw [hr2]; simp [h]; rfl
      · have ej : j = j / 3 * 3 + 2 := by omega
        have hr2 : (vC (List.replicate s zeroV))[j]? = some (.bool false) := by rw [ej]; exact a2
        rw [hr] at hr2
        injection hr2 with hr2
        rw [hr2]; simp [h]
  have hst := run_storeCells_at Try.prog g (k * 3) 75 (vC (List.replicate s zeroV)) 0 cur w hg (by rw [vC_len]; simp; omega) (vC_one _)
  obtain ⟨m, rfl⟩ : ∃ m, s = m + 1 := ⟨s - 1, by omega⟩
  rw [vC_len, List.length_replicate, Nat.add_zero] at hst
  simp [Builtin.clear_, run_underlying Try.underlying98, hz, hzc, hst]
set_option maxRecDepth 100000 in
set_option maxHeartbeats 1000000 in
/-- where its row is known -/
theorem kept_own (c g n cap k : Nat) (w : World) (c0 : w.cell? ⟨c, 0, none⟩ = some (.slice (some ⟨g, 0, none⟩) n cap)) (c1 : w.cell? ⟨c, 1, none⟩ = some (.int .i64 (k : Int))) (hk : k ≤ n) (hn : n ≤ cap) (hm : cap ≤ maxLen) :
    Calls Try.prog 47 #[.pointer (some ⟨c, 0, none⟩)] w fun e w' => ∃ off, e = .returned (.slice (some ⟨g, off, none⟩) (n - k) (cap - k)) ∧ (k < n → off = k * 3) ∧ ∃ m, w' = w.drewN m := by
  unfold maxLen at hm
  have hk0 : (0 : Int) ≤ (k : Int) := by omega
  have hkn : (k : Int) ≤ (n : Int) := by omega
  have hkp : (k : Int) ≤ (cap : Int) := by omega
  by_cases hkc : k = cap
  · have hn2 : n = cap := by omega
    subst hn2
    subst hkc
    clear hkn hkp hn hk
    go_enter Try.func47, Try.ntmps47
    go_wp2
    go_quiet (fail)
    go_wp2
    go_ret
    exact ⟨0, by simp, fun h => absurd h (Nat.lt_irrefl _), _, rfl⟩
  · have hkz : ¬ (k : Int) = (cap : Int) := by omega
    go_enter Try.func47, Try.ntmps47
    go_wp2
    go_quiet (fail)
    go_wp2
    go_ret
    exact ⟨k * 3, rfl, fun _ => rfl, _, rfl⟩
end Go.Proofs.Ytjceofkcahfhmaa.Cn
namespace Go.Proofs.Ytjceofkcahfhmaa.Cn
open Go.RowKit Go.Lib Go.Shelf Go.Sort
set_option linter.unusedSimpArgs false
set_option linter.unusedVariables false

/-- the chain's row wiped -/
theorem own_wipe {B g k s cap : Nat} {all : List Ver} {W : World} (h : OwV 75 B (.slice (some ⟨g, 0, none⟩) all.length cap) all W) (hks : k + s ≤ all.length) (hs : 0 < s) :
    ∃ W', (∀ ty c2, (Builtin.clear_ #[98] ty #[.slice (some ⟨g, k * 3, none⟩) s c2]).run Try.prog W = .ok (.tuple #[]) W') ∧ OwV 75 B (.slice (some ⟨g, 0, none⟩) all.length cap) (wipe all k s) W' ∧ (W'.os = W.os ∧ W'.tape = W.tape ∧ W'.output = W.output ∧ W'.heap.size = W.heap.size) ∧ ∀ q, q ≠ g → W'.heap[q]? = W.heap[q]? := by
  obtain ⟨hl, h⟩ := h
  rcases h with ⟨h, _⟩ | ⟨g', cap', cur, hv, hb, hgh, hn, hm, hz, htk⟩
  · cases h
  · injection hv with h1 h2 h3
    injection h1 with h1
    injection h1 with h1
    subst h1 h3
    refine ⟨W.setRow g (cur.toList.take (k * 3) ++ vC (List.replicate s zeroV) ++ cur.toList.drop (k * 3 + s * 3)).toArray, fun ty c2 => run_clear W ty g k s c2 cur hs hgh (by omega), ?_, ⟨rfl, rfl, rfl, by simp [World.setRow]⟩, fun q hq => setRow_other W g q _ hq⟩
    show World.ownsRow _ _ _ _ _ _ _
    rw [wipe_len hks]
    refine ⟨by rw [vC_len, wipe_len hks], .inr ⟨g, cap, _, rfl, hb, setRow_heap W g _ _ _ _ hgh, hn, hm, ?_, ?_⟩⟩
    · have e1 : cur.toList.length = cap * 3 := by rw [Array.length_toList, hz]
      simp only [List.size_toArray, List.length_append, List.length_take, List.length_drop, vC_len, List.length_replicate, e1]
      omega
    · exact wipe_cells hks htk
theorem Chg.tr {c : Nat} {gb : Option Nat} {a b d : World} (h : Chg c gb a b) (k : Chg c gb b d) : Chg c gb a d := h.trans (.inl rfl) k
theorem Chg.set {c : Nat} {gb : Option Nat} (W : World) (i : Nat) (u : Value) : Chg c gb W (W.setCell ⟨c, i, none⟩ u) :=
  ⟨rfl, rfl, rfl, by simp [World.setCell], fun q _ hc _ => Below.heap_setCell _ _ _ _ hc⟩
theorem blk2 {w : World} {c : Nat} {a b : Value} {t : TypeId} (h : w.heap[c]? = some (.cells #[a, b] t (0, 0))) (i : Nat) (hi : i = 0 ∨ i = 1) (u : Value) : (w.setCell ⟨c, i, none⟩ u).heap[c]? = some (.cells (if i = 0 then #[u, b] else #[a, u]) t (0, 0)) := by
  have := blk_set h i u
  rcases hi with rfl | rfl
  · simpa using this
  · simpa using this
set_option maxRecDepth 100000 in
set_option maxHeartbeats 4000000 in
theorem Compact_c (B c N : Nat) (gb : Option Nat) (l : List Ver) (rev : Int) (w : World) (h : IsCh B c N gb l w) (hN : N ≤ 1000000) (hB : B ≤ w.heap.size) (ha : Asc l) :
    Calls Try.prog 38 #[.pointer (some ⟨c, 0, none⟩), .int .i64 rev] w (PtQ B c N gb (cmp l rev) (spr l rev : Nat) w) := by
  obtain ⟨i0, hi, hz0, hz1, hz2⟩ := info_parts infoC
  have HS := Lib.hid (Spare_c B c N gb l rev w h hN ha)
  have HC : Hid (cmp l rev = l.drop (spr l rev)) := rfl
  have hsl : spr l rev ≤ l.length := Nat.le_trans (spr_le l rev) (cnt_le l rev)
  rw [HC.out]
  have H := Lib.hid h
  clear h HC ha
  revert HS hsl
  generalize spr l rev = s
  intro HS hsl
  by_cases hs0 : s = 0
  · subst hs0
    rw [List.drop_zero]
    go_enter Try.func38, Try.ntmps38
    go_wp2_with fail
    refine HS.out.mono ?_
    rintro e w1 ⟨rfl, hb1⟩
    have HB1 := Lib.hid hb1
    clear hb1
    go_wp2
    go_ret
    exact ptq_same H.out HB1.out rfl
  · have hs1 : 0 < s := by omega
    go_enter Try.func38, Try.ntmps38
    go_wp2_with fail
    refine HS.out.mono ?_
    rintro e w1 ⟨rfl, hb1⟩
    have HB1 := Lib.hid hb1
    obtain ⟨sv, all, k, g1, g2, g3, g4, g5, g6⟩ := H.out.go hb1
    have hll : l.length = all.length - k := by rw [← g4, List.length_drop]
    clear hb1
    rcases own_slV g6 with ⟨rfl, h0⟩ | ⟨g, cap, rfl, hn, hm, hg⟩
    · omega
    · have c0 := cell_of_row _ _ 0 _ _ _ g5
      have c1 := cell_of_row _ _ 1 _ _ _ g5
      simp at c0 c1
      have HK := Lib.hid (kept_own c g all.length cap k w1 c0 c1 g2 hn hm)
      have HG5 := Lib.hid g5
      have HO := Lib.hid g6
      have G1 := Lib.hid g1
      have G4 := Lib.hid g4
      have HLL := Lib.hid hll
      have hks : k + s ≤ all.length := by omega
      have hsi : (s : Int) ≤ ((all.length - k : Nat) : Int) := by omega
      have hsz : ¬ (s : Int) = 0 := by omega
      have hs00 : (0 : Int) ≤ (s : Int) := by omega
      have hcap : (s : Int) ≤ ((cap - k : Nat) : Int) := by omega
      unfold maxLen at hm
      clear g1 g4 g5 g6 hll c0 c1 hs0
      go_wp2_with fail
      refine HK.out.mono ?_
      rintro e w2 ⟨off, rfl, ho, n2, rfl⟩
      obtain rfl : off = k * 3 := ho (by omega)
      have HB2 : Hid (Below w1.heap.size w1 (w1.drewN n2)) := bdrN w1 n2
      obtain ⟨WC, hcl, hoc, ⟨hos, htp, hou, hsc⟩, hoth⟩ := own_wipe (HO.out.go HB2.out) hks hs1
      have HOC := Lib.hid hoc
      have HOT := Lib.hid hoth
      have HOS := Lib.hid hos
      have HTP := Lib.hid htp
      have HOU := Lib.hid hou
      have HSC := Lib.hid hsc
      have hcg : c ≠ g := by
        intro e
        have := own_ne HO.out HG5.out (by decide)
        exact this (by rw [e]; rfl)
      have hcC : WC.heap[c]? = some (.cells #[.slice (some ⟨g, 0, none⟩) all.length cap, .int .i64 (k : Int)] 108 (0, 0)) := (HOT.out c hcg).trans HG5.out
      have HCH1 : Hid (Chg c gb w WC) := by
        refine Chg.tr (Chg.of HB1.out) ⟨HOS.out, HTP.out, HOU.out, Nat.le_of_eq HSC.out.symm, fun q hq hqc hqg => HOT.out q (fun e => hqg ?_)⟩
        rw [e]; exact G1.out
      obtain ⟨W2, hW2, hk2⟩ : ∃ W2, W2 = WC.setCell ⟨c, 1, none⟩ (.int .i64 ((k : Int) + (s : Int))) ∧ W2.heap[c]? = some (.cells #[.slice (some ⟨g, 0, none⟩) all.length cap, .int .i64 ((k : Int) + (s : Int))] 108 (0, 0)) := ⟨_, rfl, by simpa using blk2 hcC 1 (.inr rfl) (.int .i64 ((k : Int) + (s : Int)))⟩
      have HCH2 : Hid (Chg c gb w W2) := by
        refine Chg.tr HCH1.out ?_
        rw [hW2]; exact Chg.set _ _ _
      have HO2 : Hid (OwV 75 B (.slice (some ⟨g, 0, none⟩) all.length cap) (wipe all k s) W2) := by
        show World.ownsRow _ _ _ _ _ _ _
        rw [hW2]; exact own_set HOC.out hcC (by decide) _ _
      obtain ⟨p, hp⟩ : ∃ p, p = all.length - (k + s) := ⟨_, rfl⟩
      have hD : (wipe all k s).drop (k + s) = l.drop s := by rw [wipe_drop hks, ← List.drop_drop, G4.out]
      have hpl : (l.drop s).length = p := by rw [List.length_drop]; have := HLL.out; omega
      have HK2 := Lib.hid (kept_own c g all.length cap (k + s) W2 (by have := cell_of_row _ _ 0 _ _ _ hk2; simpa using this) (by have := cell_of_row _ _ 1 _ _ _ hk2; simpa using this) hks hn (by unfold maxLen; omega))
      rw [← hp] at HK2
      have x0 := cell_of_row _ _ 0 _ _ _ hk2
      have x1 := cell_of_row _ _ 1 _ _ _ hk2
      simp at x0 x1
      have y0 := frz hk2 0
      have y1 := frz hk2 1
      have z1 := cell_of_row _ _ 1 _ _ _ hcC
      simp at z1
      have v1 := frz hcC 1
      have HK5 := Lib.hid hk2
      have HW2 := Lib.hid hW2
      have HD := Lib.hid hD
      have HP := Lib.hid hp
      have HPL := Lib.hid hpl
      have hkN : k + s ≤ 1000000 := by omega
      have hpN : p ≤ 1000000 := by omega
      clear ho hoc hoth hos htp hou hsc HK hcC hW2 hk2 hD hp hpl
      go_wp2_with fail
      rw [← HW2.out]
      (with_reducible refine HK2.out.mono ?_)
      rintro e w3 ⟨off, rfl, ho, n3, rfl⟩
      have HB3 : Hid (Below W2.heap.size W2 (W2.drewN n3)) := bdrN W2 n3
      have HR3 : Hid (RdV (.slice (some ⟨g, off, none⟩) p (cap - (k + s))) (l.drop s) (W2.drewN n3)) := by
        show RdV _ _ _
        by_cases h0 : p = 0
        · have hl0 : l.drop s = [] := List.eq_nil_of_length_eq_zero (by rw [HPL.out, h0])
          rw [hl0, h0]; exact rdv_nil _ _ _
        · have hof : off = (k + s) * 3 := ho (by have := HP.out; omega)
          have hr := (OwV.drop (by have := HO2.out; rw [← wipe_len hks] at this; exact this) (k + s) (by rw [wipe_len hks]; exact hks) (cap - (k + s)) : RdV (.slice (some ⟨g, (k + s) * 3, none⟩) ((wipe all k s).length - (k + s)) (cap - (k + s))) ((wipe all k s).drop (k + s)) W2)
          rw [HD.out, wipe_len hks, ← HP.out] at hr
          rw [hof]; exact hr.go HB3.out
      clear ho HK2
      by_cases hle : p ≤ k + s
      · have hle1 : (p : Int) ≤ (k : Int) + (s : Int) := by omega
        have D1 : Hid ((vC (l.drop s)).length = p * 3) := by show _ = _; rw [vC_len, HPL.out]
        have D2 := Lib.hid (vC_one (l.drop s))
        have D3 : Hid (0 + p ≤ maxLen) := by show _ ≤ _; unfold maxLen; omega
        have D4 : Hid ((0 + p) * 32 ≤ 140737488355328) := by show _ ≤ _; omega
        have HC3 := Lib.hid (rdv_cells HR3.out)
        go_wp2_with (at_builtin; refine wpList_append_own _ rfl _ _ 98 rfl (W2.drewN n3).heap.size 75 i0 _ 3 32 Try.underlying98 hi hz0 hz1 hz2 rfl (by decide) _ _ _ rfl (World.ownsRow_nil _ _ _ _) ⟨g, off, none⟩ p (cap - (k + s)) (vC (l.drop s)) rfl D1.out HC3.out D2.out D3.out D4.out (Nat.le_refl _) ?_)
        intro v' V hown hgrow _
        have hcV : V.heap[c]? = some (.cells #[.slice (some ⟨g, 0, none⟩) all.length cap, .int .i64 ((k : Int) + (s : Int))] 108 (0, 0)) := by
          have h3 : (W2.drewN n3).heap[c]? = _ := HK5.out
          exact (hgrow.block _ (Array.getElem?_eq_some_iff.1 h3).1 (fun e => by cases e)).trans h3
        have HBV : Hid (Below (W2.drewN n3).heap.size (W2.drewN n3) V) := ⟨hgrow.os, hgrow.tape, hgrow.output, hgrow.size, fun q hq => hgrow.block q hq (fun e => by cases e)⟩
        have HOV : Hid (V.ownsRow (W2.drewN n3).heap.size 75 3 v' p (vC (l.drop s))) := by
          show World.ownsRow _ _ _ _ _ _ _
          simpa using hown
        obtain ⟨ao', cap', hv'⟩ : ∃ ao' cap', v' = .slice ao' p cap' := by
          rcases own_slV HOV.out with ⟨e, h0⟩ | ⟨g', cp, e, _⟩
          · exact ⟨none, 0, by rw [e, h0]⟩
          · exact ⟨_, _, e⟩
        subst hv'
        have q0 := frz hcV 0
        have q1 := frz hcV 1
        have r0 := cell_of_row _ _ 0 _ _ _ hcV
        have r1 := cell_of_row _ _ 1 _ _ _ hcV
        simp at r0 r1
        have HCV := Lib.hid hcV
        clear hown hgrow hcV
        go_wp2
        go_ret
        have e1 := blk2 HCV.out 0 (.inl rfl) (.slice ao' p cap')
        have e2 := blk2 (by simpa using e1) 1 (.inr rfl) (.int .i64 0)
        have o1 := own_set HOV.out HCV.out (by decide) 0 (.slice ao' p cap')
        have o2 := own_set o1 (by simpa using e1) (by decide) 1 (.int .i64 0)
        have o3 : OwV 75 (W2.drewN n3).heap.size (.slice ao' p cap') (l.drop s) ((V.setCell ⟨c, 0, none⟩ (.slice ao' p cap')).setCell ⟨c, 1, none⟩ (.int .i64 0)) := by
          show World.ownsRow _ _ _ _ _ _ _
          rw [HPL.out]; exact o2
        have hs3 : w.heap.size ≤ (W2.drewN n3).heap.size := HCH2.out.size
        refine ⟨rfl, _, ⟨.slice ao' p cap', l.drop s, 0, rfl, Nat.zero_le _, ?_, rfl, by simpa using e2, ?_⟩, ((HCH2.out.tr (Chg.of HB3.out)).tr (Chg.of HBV.out)).tr ((Chg.set _ _ _).tr (Chg.set _ _ _)), ?_⟩
        · rw [HPL.out, HP.out]; omega
        · exact o3.mono (B' := B) (by omega)
        · rcases own_slV HOV.out with ⟨e, _⟩ | ⟨g', cp, e, _⟩
          · rw [e]; exact .inr (.inl rfl)
          · have := HOV.out.lt g' (by rw [e]; rfl)
            rw [e]; exact .inr (.inr ⟨g', rfl, by omega⟩)
      · have hle1 : ¬ (p : Int) ≤ (k : Int) + (s : Int) := by omega
        go_wp2
        go_ret
        refine ⟨rfl, gb, ⟨.slice (some ⟨g, 0, none⟩) all.length cap, wipe all k s, k + s, G1.out, by rw [wipe_len hks]; exact hks, by rw [wipe_len hks]; exact g3, HD.out, ?_, ?_⟩, HCH2.out.tr (Chg.of HB3.out), .inl rfl⟩
        · have := HK5.out
          rw [Int.natCast_add]; exact this
        · exact (HO2.out.go HB3.out)
end Go.Proofs.Ytjceofkcahfhmaa.Cn
namespace Go.Proofs.Ytjceofkcahfhmaa.Cn
open Go.RowKit Go.Lib Go.Shelf Go.Sort
set_option linter.unusedSimpArgs false
set_option linter.unusedVariables false

set_option maxHeartbeats 1000000 in
theorem New_c (w : World) : Calls Try.prog 51 #[] w fun e w' => e = .returned (.pointer (some ⟨w.heap.size, 0, none⟩)) ∧ IsCh w.heap.size w.heap.size 0 none [] w' ∧ Below w.heap.size w w' := by
  go_enter Try.func51, Try.ntmps51
  go_wp2
  go_ret
  refine ⟨rfl, ⟨.slice none 0 0, [], 0, rfl, Nat.le_refl _, Nat.le_refl _, rfl, heap_alloc_new w _, World.ownsRow_nil _ _ _ _⟩, (Below.refl _ _).alloc (Nat.le_refl _) _⟩
set_option maxHeartbeats 1000000 in
theorem kept_nil (w : World) : Calls Try.prog 47 #[.pointer none] w fun e w' => e = .returned (.slice none 0 0) ∧ w' = w := by
  go_enter Try.func47, Try.ntmps47
  go_wp2
  go_ret
  exact ⟨rfl, rfl⟩
set_option maxHeartbeats 1000000 in
theorem Len_nil (w : World) : Calls Try.prog 39 #[.pointer none] w fun e w' => e = .returned (.int .i64 0) ∧ w' = w := by
  go_enter Try.func39, Try.ntmps39
  go_wp2_with fail
  refine (kept_nil w).mono ?_
  rintro e w' ⟨rfl, rfl⟩
  go_wp2
  go_ret
  exact ⟨rfl, rfl⟩
theorem up_nil (rev : Int) (w : World) : Calls Try.prog 48 #[.slice none 0 0, .int .i64 rev] w fun e w' => e = .returned (.int .i64 0) ∧ Below w.heap.size w w' := upTo_c none 0 [] rev w (rdv_nil _ _ _) List.Pairwise.nil (by simp)
set_option maxHeartbeats 1000000 in
theorem Spare_nil (rev : Int) (w : World) : Calls Try.prog 53 #[.pointer none, .int .i64 rev] w fun e w' => e = .returned (.int .i64 0) ∧ Below w.heap.size w w' := by
  go_enter Try.func53, Try.ntmps53
  go_wp2_with fail
  refine (kept_nil w).mono ?_
  rintro e w' ⟨rfl, rfl⟩
  go_wp2_with fail
  refine (up_nil rev _).mono ?_
  rintro e w2 ⟨rfl, hb⟩
  have HB := Lib.hid hb
  clear hb
  go_wp2
  go_ret
  exact ⟨rfl, HB.out⟩
set_option maxHeartbeats 1000000 in
theorem Compact_nil (rev : Int) (w : World) : Calls Try.prog 38 #[.pointer none, .int .i64 rev] w fun e w' => e = .returned (.int .i64 0) ∧ Below w.heap.size w w' := by
  go_enter Try.func38, Try.ntmps38
  go_wp2_with fail
  refine (Spare_nil rev w).mono ?_
  rintro e w' ⟨rfl, hb⟩
  have HB := Lib.hid hb
  clear hb
  go_wp2
  go_ret
  exact ⟨rfl, HB.out⟩
set_option maxHeartbeats 1000000 in
theorem Put_nil (v : Ver) (w : World) : Calls Try.prog 52 #[.pointer none, aggV v] w fun e w' => e = .returned (.int .i64 2) ∧ Below w.heap.size w w' := by
  unfold aggV
  go_enter Try.func52, Try.ntmps52
  go_wp2
  go_ret
  exact ⟨rfl, (Below.refl _ _).alloc (Nat.le_refl _) _⟩
set_option maxRecDepth 100000 in
set_option maxHeartbeats 1000000 in
theorem Last_nil (w : World) : Calls Try.prog 59 #[.pointer none] w fun e w' => e = .returned (vb zeroV false) ∧ Below w.heap.size w w' := by
  obtain ⟨W0, hW0, hk0, hb0⟩ := new3 w (.int .i64 0) (.string ⟨#[]⟩) (.bool false) 75
  have hlt0 : w.heap.size < W0.heap.size := (Array.getElem?_eq_some_iff.1 hk0).1
  have HW0 := Lib.hid hW0
  have HB0 := Lib.hid hb0
  obtain ⟨c0, c1, c2⟩ := cells3 hk0
  have f0 := frz hk0 0
  have f1 := frz hk0 1
  have f2 := frz hk0 2
  have HK0 := Lib.hid hk0
  clear hW0 hb0 hk0
  go_enter Try.func59, Try.ntmps59
  go_wp2_with fail
  rw [← HW0.out]
  refine (kept_nil W0).mono ?_
  rintro e w' ⟨rfl, rfl⟩
  have HBX := Lib.hid (box3 HK0.out HB0.out (Below.refl _ _) (.int .i64 0) (.string ⟨#[]⟩) (.bool false))
  go_wp2
  obtain ⟨W2, hW2, d0, d1, d2, hb2⟩ := HBX.out
  rw [← hW2]
  exact bodyPost_ret (v := vb zeroV false) (by simp [results, Try.results59, go_sem, d0, d1, d2, vb, aggV, zeroV]; rfl) rfl ⟨rfl, hb2⟩
set_option maxRecDepth 100000 in
set_option maxHeartbeats 1000000 in
theorem At_nil (rev : Int) (w : World) : Calls Try.prog 31 #[.pointer none, .int .i64 rev] w fun e w' => e = .returned (vb zeroV false) ∧ Below w.heap.size w w' := by
  obtain ⟨W0, hW0, hk0, hb0⟩ := new3 w (.int .i64 0) (.string ⟨#[]⟩) (.bool false) 75
  have hlt0 : w.heap.size < W0.heap.size := (Array.getElem?_eq_some_iff.1 hk0).1
  have HW0 := Lib.hid hW0
  have HB0 := Lib.hid hb0
  have HK0 := Lib.hid hk0
  clear hW0 hb0 hk0
  go_enter Try.func31, Try.ntmps31
  go_wp2_with fail
  rw [← HW0.out]
  refine (kept_nil W0).mono ?_
  rintro e w' ⟨rfl, rfl⟩
  go_wp2_with fail
  refine (up_nil rev _).mono ?_
  rintro e w2 ⟨rfl, hb⟩
  have hk2 := (hb.block _ hlt0).trans HK0.out
  have f0 := frz hk2 0
  have f1 := frz hk2 1
  have f2 := frz hk2 2
  obtain ⟨c0, c1, c2⟩ := cells3 hk2
  have HBX := Lib.hid (box3 HK0.out HB0.out hb (.int .i64 0) (.string ⟨#[]⟩) (.bool false))
  clear hb hk2
  go_wp2
  obtain ⟨W2, hW2, d0, d1, d2, hb2⟩ := HBX.out
  rw [← hW2]
  exact bodyPost_ret (v := vb zeroV false) (by simp [results, Try.results31, go_sem, d0, d1, d2, vb, aggV, zeroV]; rfl) rfl ⟨rfl, hb2⟩
def KpP (l : List Ver) (w : World) (e : Ending) (w' : World) : Prop := ∃ ao cap, e = .returned (.slice ao l.length cap) ∧ RdV (.slice ao l.length cap) l w ∧ (∀ a, ao = some a → ∃ g off, a = ⟨g, off, none⟩) ∧ ∃ n, w' = w.drewN n
set_option maxRecDepth 100000 in
set_option maxHeartbeats 1000000 in
theorem kept_p (B c N : Nat) (gb : Option Nat) (l : List Ver) (w : World) (h : IsCh B c N gb l w) (hN : N ≤ 1000000) :
    Calls Try.prog 47 #[.pointer (some ⟨c, 0, none⟩)] w (KpP l w) := by
  obtain ⟨v, all, k, h1, h2, h3, h4, h5, h6⟩ := h
  have c0 := cell_of_row _ _ 0 _ _ _ h5
  have c1 := cell_of_row _ _ 1 _ _ _ h5
  simp at c0 c1
  have H4 := Lib.hid h4
  have H6 := Lib.hid h6
  rcases own_slV h6 with ⟨rfl, h0⟩ | ⟨g, cap, rfl, hn, hm, hg⟩
  · have hk : k = 0 := by omega
    subst hk
    have hl0 : l = [] := by rw [← h4]; simpa using h0
    subst hl0
    clear h1 h2 h3 h4 h5 h6 h0 H4 H6
    go_enter Try.func47, Try.ntmps47
    go_wp2
    go_quiet (fail)
    go_wp2
    go_ret
    exact ⟨none, 0, rfl, rdv_nil _ _ _, by simp, _, rfl⟩
  · unfold maxLen at hm
    have hll : all.length - k = l.length := by rw [← h4, List.length_drop]
    have HLL := Lib.hid hll
    by_cases hkc : k = cap
    · have hn2 : all.length = cap := by omega
      have hl0 : l = [] := by
        have : l.length = 0 := by rw [← hll]; omega
        exact List.eq_nil_of_length_eq_zero this
      subst hl0
      subst hkc
      rw [hn2] at c0
      clear h1 h2 h3 h4 h5 h6 hn hn2 hll HLL H4 H6
      go_enter Try.func47, Try.ntmps47
      go_wp2
      go_quiet (fail)
      go_wp2
      go_ret
      exact ⟨_, _, rfl, rdv_nil _ _ _, fun a ha => ⟨_, _, (by injection ha with ha; exact ha.symm)⟩, _, rfl⟩
    · have hR := Lib.hid (h6.drop k h2 (cap - k))
      have hkc2 : k < cap := by omega
      have hk0 : (0 : Int) ≤ (k : Int) := by omega
      have hkn : (k : Int) ≤ (all.length : Int) := by omega
      have hkp : (k : Int) ≤ (cap : Int) := by omega
      have hkz : ¬ (k : Int) = (cap : Int) := by omega
      rw [hll, H4.out] at hR
      clear h1 h3 h4 h5 h6 H4 H6
      go_enter Try.func47, Try.ntmps47
      go_wp2
      go_quiet (fail)
      go_wp2
      go_ret
      exact ⟨_, _, rfl, hR.out, fun a ha => ⟨_, _, (by injection ha with ha; exact ha.symm)⟩, _, rfl⟩
theorem neqV (a c : Int) (b d : ByteArray) (x y : Bool) (W : World) : (binOp .neq 75 (.agg #[.int .i64 a, .string b, .bool x]) (.agg #[.int .i64 c, .string d, .bool y])).run Try.prog W = .ok (.bool (!decide (a = c ∧ b.data.toList = d.data.toList ∧ x = y))) W := by
  have u9 := Try.underlying9
  have hS : Try.prog.underlying 75 = some (.struct (Try.prog.fieldsOf 75)) := by kernel_rfl
  have hp : Try.prog.stoodInHeld 75 = false := by kernel_rfl
  rw [run_neq_struct, show (10000 : Nat) = 9999 + 1 from rfl, run_equalIn_agg W 9999 75 _ _ hS hp]
  simp only [Program.fieldsOf, Try.underlying75]
  go_simp
  simp only [Lib.toList_data]
  by_cases h1 : a = c <;> by_cases h2 : b.data = d.data <;> by_cases h3 : x = y <;> simp [h1, h2, h3]
end Go.Proofs.Ytjceofkcahfhmaa.Cn
