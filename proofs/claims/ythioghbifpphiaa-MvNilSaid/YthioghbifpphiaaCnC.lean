/- Contracts of package chain's upTo (the library's Search), Len, Spare, Last, At: at every chain of the call's own; no other condition. -/
import Derived.Test.YthioghbifpphiaaCnB
namespace Go.Proofs.Ythioghbifpphiaa.Cn
open Go.RowKit Go.Lib Go.Shelf Go.Sort
set_option linter.unusedSimpArgs false
set_option linter.unusedVariables false

set_option maxRecDepth 100000 in
set_option maxHeartbeats 1000000 in
theorem Len_c (B c N : Nat) (gb : Option Nat) (l : List Ver) (w : World) (h : IsCh B c N gb l w) (hN : N ≤ 1000000) :
    Calls Try.prog 37 #[.pointer (some ⟨c, 0, none⟩)] w fun e w' => e = .returned (.int .i64 (l.length : Nat)) ∧ ∃ n, w' = w.drewN n := by
  have HK := Lib.hid (kept_c B c N gb l w h hN)
  have hl := h.le
  clear h
  go_enter Try.func37, Try.ntmps37
  go_wp2_with fail
  refine HK.out.mono ?_
  rintro e w' ⟨ao, cap, rfl, _, n, rfl⟩
  go_wp2
  go_ret
  exact ⟨rfl, n, rfl⟩
theorem getD_at {l : List Ver} {i : Nat} (hi : i < l.length) : l.getD i zeroV = l[i] := by rw [List.getD_eq_getElem?_getD, List.getElem?_eq_getElem hi]; rfl
/-- the closure of upTo: is the i-th version above rev? -/
def abv (l : List Ver) (rev : Int) (i : Nat) : Bool := decide (rev < (l.getD i zeroV).1)
theorem abv_lt {l : List Ver} {rev : Int} {i : Nat} (hi : i < l.length) : abv l rev i = decide (rev < l[i].1) := by unfold abv; rw [getD_at hi]
theorem cnt_abv (l : List Ver) (rev : Int) : (List.range l.length).countP (fun i => !abv l rev i) = cnt l rev := by
  have h : l = (List.range l.length).map (fun i => l.getD i zeroV) := by
    apply List.ext_getElem
    · simp
    · intro i h1 h2
      simp only [List.getElem_map, List.getElem_range]
      rw [getD_at h1]
  unfold cnt
  conv => rhs; rw [h]
  rw [List.countP_map]
  apply List.countP_congr
  intro i _
  unfold abv
  simp
set_option maxRecDepth 100000 in
set_option maxHeartbeats 2000000 in
theorem clo_c (ba bx : Nat) (ao : Option Addr) (cap : Nat) (l : List Ver) (rev : Int) (i : Nat) (W : World) (hi : i < l.length) (hR : RdV (.slice ao l.length cap) l W)
    (ha : W.cell? ⟨ba, 0, none⟩ = some (.slice ao l.length cap)) (hx : W.cell? ⟨bx, 0, none⟩ = some (.int .i64 rev)) :
    Calls Try.prog 59 (#[.int .i64 i] ++ #[.pointer (some ⟨ba, 0, none⟩), .pointer (some ⟨bx, 0, none⟩)]) W fun e w' => e = .returned (.bool (abv l rev i)) ∧ ∃ q os', w' = grow (W.drewN q) os' := by
  obtain ⟨g, off, rfl, hg, hat⟩ := rdv_at hR (by omega)
  obtain ⟨p0, _, _⟩ := hat i hi
  rw [abv_lt hi]
  have hiz : (i : Int) < (l.length : Int) := by omega
  have hi0 : (0 : Int) ≤ (i : Int) := by omega
  clear hat hR
  revert p0
  generalize l[i].1 = y
  intro p0
  go_enter Try.func59, Try.ntmps59
  go_wp2
  go_quiet (fail)
  go_wp2
  go_ret
  exact ⟨rfl, _, #[], by rw [grow_empty]⟩
set_option maxHeartbeats 2000000 in
theorem upTo_c (ao : Option Addr) (cap : Nat) (l : List Ver) (rev : Int) (w : World) (hR : RdV (.slice ao l.length cap) l w) (ha : Asc l) (hm : l.length ≤ 1000000) :
    Calls Try.prog 49 #[.slice ao l.length cap, .int .i64 rev] w fun e w' => e = .returned (.int .i64 (cnt l rev : Nat)) ∧ Below w.heap.size w w' := by
  obtain ⟨W0, hW0⟩ : ∃ W0, W0 = (w.alloc (.cells #[.slice ao l.length cap] 99)).alloc (.cells #[.int .i64 rev] 2) := ⟨_, rfl⟩
  have hsize : W0.heap.size = w.heap.size + 1 + 1 := by rw [hW0]; simp
  have ca : W0.cell? ⟨w.heap.size, 0, none⟩ = some (.slice ao l.length cap) := by rw [hW0]; exact cell_alloc_sl _ (cell_new_sl w _ _)
  have cx : W0.cell? ⟨w.heap.size + 1, 0, none⟩ = some (.int .i64 rev) := by rw [hW0]; have := cell_new_sl (w.alloc (.cells #[.slice ao l.length cap] 99)) (.int .i64 rev) 2; rwa [World.size_alloc] at this
  have hB0 : Below w.heap.size w W0 := by rw [hW0]; exact ((Below.refl _ w).alloc (Nat.le_refl _) _).alloc (by simp) _
  have hR0 := hR.go hB0
  have eg : ∀ args w, (callFunc 59 args).run Try.prog w = .ok (.enter 59 args) w := enters_of Try.func59 (by kernel_rfl) rfl
  have hS := Any.sort_Search Try.search 59 #[.pointer (some ⟨w.heap.size, 0, none⟩), .pointer (some ⟨w.heap.size + 1, 0, none⟩)] l.length (abv l rev) W0 eg (by omega)
    (fun m os i hi => clo_c w.heap.size (w.heap.size + 1) ao cap l rev i _ hi (hR0.go (below_grown_sl W0.heap.size W0 m os (Nat.le_refl _))) (cell_grown (by simp [hsize]; omega) ca m os) (cell_grown (by simp [hsize]) cx m os))
    (fun a b hab hb h => by
      rw [abv_lt (by omega)] at h
      rw [abv_lt hb]
      rcases Nat.lt_or_ge a b with g | g
      · have := ha.lt (by omega) hb g; simp at h ⊢; omega
      · have e : a = b := by omega
        subst e; exact h)
  rw [cnt_abv] at hS
  change Calls Try.prog 45 _ _ _ at hS
  clear hR ca cx hR0 eg
  have HS := Lib.hid hS
  have HB0 := Lib.hid hB0
  have HZ := Lib.hid hsize
  have HW0 := Lib.hid hW0
  clear hS hB0 hsize hW0 ha
  generalize cnt l rev = r at HS ⊢
  go_enter Try.func49, Try.ntmps49
  go_wp2_with (go_at_call 45; rw [← HW0.out]; refine HS.out.mono ?_; rintro e w' ⟨rfl, q, os, rfl⟩)
  go_ret
  refine ⟨rfl, ?_⟩
  exact HB0.out.trans (below_grown_sl w.heap.size W0 q os (by have := HZ.out; omega))
end Go.Proofs.Ythioghbifpphiaa.Cn
