/- Contracts of package clog's New, Floor, Last, Len, upTo: at every log of the call's own; no other condition. -/
import Derived.Test.YtcmcbocegdejjaaClB
namespace Go.Proofs.Ytcmcbocegdejjaa.Cl
open Go.RowKit Go.Lib Go.Shelf Go.Sort
set_option linter.unusedSimpArgs false
set_option linter.unusedVariables false

set_option maxRecDepth 100000 in
set_option maxHeartbeats 1000000 in
theorem New_c (m : Int) (w : World) : Calls Try.prog 7 #[.int .i64 m] w fun e w' => e = .returned (.pointer (some ⟨w.heap.size, 0, none⟩)) ∧ IsLg w.heap.size w.heap.size none m [] 0 0 w' ∧ Below w.heap.size w w' := by
  obtain ⟨W, hW, hk, hb⟩ := new4 w (.int .i64 m) (.slice none 0 0) (.int .i64 0) (.int .i64 0) 62
  have HW := Lib.hid hW
  have HK := Lib.hid hk
  have HB := Lib.hid hb
  clear hW hk hb
  go_enter Try.func7, Try.ntmps7
  go_wp2
  rw [← HW.out]
  go_ret
  exact ⟨rfl, ⟨⟨_, HK.out, OwL.nil _ _, rfl⟩, by simp⟩, HB.out⟩
set_option maxRecDepth 100000 in
set_option maxHeartbeats 1000000 in
theorem Floor_c {B c : Nat} {gb : Option Nat} {m : Int} {l : List Ent} {fl la : Int} {w : World} (h : IsLg B c gb m l fl la w) : Calls Try.prog 10 #[.pointer (some ⟨c, 0, none⟩)] w fun e w' => e = .returned (.int .i64 fl) ∧ w' = w := by
  obtain ⟨v, hv, _, _⟩ := h.ex
  obtain ⟨c0, c1, c2, c3⟩ := cells4 hv
  clear h hv
  go_enter Try.func10, Try.ntmps10
  go_wp2
  go_ret
  exact ⟨rfl, rfl⟩
set_option maxRecDepth 100000 in
set_option maxHeartbeats 1000000 in
theorem Last_c {B c : Nat} {gb : Option Nat} {m : Int} {l : List Ent} {fl la : Int} {w : World} (h : IsLg B c gb m l fl la w) : Calls Try.prog 11 #[.pointer (some ⟨c, 0, none⟩)] w fun e w' => e = .returned (.int .i64 la) ∧ w' = w := by
  obtain ⟨v, hv, _, _⟩ := h.ex
  obtain ⟨c0, c1, c2, c3⟩ := cells4 hv
  clear h hv
  go_enter Try.func11, Try.ntmps11
  go_wp2
  go_ret
  exact ⟨rfl, rfl⟩
set_option maxRecDepth 100000 in
set_option maxHeartbeats 1000000 in
theorem Len_c {B c : Nat} {gb : Option Nat} {m : Int} {l : List Ent} {fl la : Int} {w : World} (h : IsLg B c gb m l fl la w) : Calls Try.prog 12 #[.pointer (some ⟨c, 0, none⟩)] w fun e w' => e = .returned (.int .i64 (l.length : Nat)) ∧ w' = w := by
  obtain ⟨v, hv, ho, _⟩ := h.ex
  obtain ⟨ao, cap, rfl, _⟩ := ho.form
  obtain ⟨c0, c1, c2, c3⟩ := cells4 hv
  clear h hv ho
  go_enter Try.func12, Try.ntmps12
  go_wp2
  go_ret
  exact ⟨rfl, rfl⟩
theorem Floor_nil (w : World) : Calls Try.prog 10 #[.pointer none] w fun e w' => e = .returned (.int .i64 0) ∧ w' = w := by
  go_enter Try.func10, Try.ntmps10
  go_wp2
  go_ret
  exact ⟨rfl, rfl⟩
theorem Last_nil (w : World) : Calls Try.prog 11 #[.pointer none] w fun e w' => e = .returned (.int .i64 0) ∧ w' = w := by
  go_enter Try.func11, Try.ntmps11
  go_wp2
  go_ret
  exact ⟨rfl, rfl⟩
theorem Len_nil (w : World) : Calls Try.prog 12 #[.pointer none] w fun e w' => e = .returned (.int .i64 0) ∧ w' = w := by
  go_enter Try.func12, Try.ntmps12
  go_wp2
  go_ret
  exact ⟨rfl, rfl⟩
def zeroE : Ent := (0, ByteArray.empty, ByteArray.empty, false)
theorem getD_at {l : List Ent} {i : Nat} (hi : i < l.length) : l.getD i zeroE = l[i] := by rw [List.getD_eq_getElem?_getD, List.getElem?_eq_getElem hi]; rfl
/-- the closure of upTo: is the i-th entry above rev? -/
def abvI (l : List Ent) (rev : Int) (i : Nat) : Bool := decide (rev < (l.getD i zeroE).1)
theorem abvI_lt {l : List Ent} {rev : Int} {i : Nat} (hi : i < l.length) : abvI l rev i = decide (rev < l[i].1) := by unfold abvI; rw [getD_at hi]
theorem cnt_abvI (l : List Ent) (rev : Int) : (List.range l.length).countP (fun i => !abvI l rev i) = cnt l rev := by
  have h : l = (List.range l.length).map (fun i => l.getD i zeroE) := by
    apply List.ext_getElem
    · simp
    · intro i h1 h2
      simp only [List.getElem_map, List.getElem_range]
      rw [getD_at h1]
  unfold cnt
  conv => rhs; rw [h]
  rw [List.countP_map]
  apply List.countP_congr
  intro i _
  unfold abvI
  simp
set_option maxRecDepth 100000 in
set_option maxHeartbeats 2000000 in
theorem clo_c (ba bx c : Nat) (ao : Option Addr) (cap : Nat) (l : List Ent) (rev : Int) (i : Nat) (W : World) (hi : i < l.length) (hR : RdE (.slice ao l.length cap) l W)
    (ha : W.cell? ⟨ba, 0, none⟩ = some (.pointer (some ⟨c, 0, none⟩))) (hc : W.cell? ⟨c, 1, none⟩ = some (.slice ao l.length cap)) (hx : W.cell? ⟨bx, 0, none⟩ = some (.int .i64 rev)) :
    Calls Try.prog 28 (#[.int .i64 i] ++ #[.pointer (some ⟨ba, 0, none⟩), .pointer (some ⟨bx, 0, none⟩)]) W fun e w' => e = .returned (.bool (abvI l rev i)) ∧ ∃ q os', w' = grow (W.drewN q) os' := by
  obtain ⟨g, off, rfl, hg, hat⟩ := hR.at (by omega)
  obtain ⟨p0, _, _, _⟩ := cell4 hat hi
  rw [abvI_lt hi]
  have hiz : (i : Int) < (l.length : Int) := by omega
  have hi0 : (0 : Int) ≤ (i : Int) := by omega
  clear hat hR
  revert p0
  generalize l[i].1 = y
  intro p0
  go_enter Try.func28, Try.ntmps28
  go_wp2
  go_quiet (fail)
  go_wp2
  go_ret
  exact ⟨rfl, _, #[], by rw [grow_empty]⟩
set_option maxRecDepth 100000 in
set_option maxHeartbeats 2000000 in
theorem upTo_c {B c : Nat} {gb : Option Nat} {m : Int} {l : List Ent} {fl la : Int} {w : World} (h : IsLg B c gb m l fl la w) (rev : Int) (hs : Srt l) (hm : l.length ≤ 1000000) :
    Calls Try.prog 23 #[.pointer (some ⟨c, 0, none⟩), .int .i64 rev] w fun e w' => e = .returned (.int .i64 (cnt l rev : Nat)) ∧ Below w.heap.size w w' := by
  obtain ⟨v, hv, ho, _⟩ := h.ex
  obtain ⟨ao, cap, rfl, _⟩ := ho.form
  have hR := ho.rd
  have hclt := h.lt
  obtain ⟨W0, hW0⟩ : ∃ W0, W0 = (w.alloc (.cells #[.pointer (some ⟨c, 0, none⟩)] 23)).alloc (.cells #[.int .i64 rev] 2) := ⟨_, rfl⟩
  have hsize : W0.heap.size = w.heap.size + 1 + 1 := by rw [hW0]; simp
  have ca : W0.cell? ⟨w.heap.size, 0, none⟩ = some (.pointer (some ⟨c, 0, none⟩)) := by rw [hW0]; exact cell_alloc_sl _ (cell_new_sl w _ _)
  have cx : W0.cell? ⟨w.heap.size + 1, 0, none⟩ = some (.int .i64 rev) := by rw [hW0]; have := cell_new_sl (w.alloc (.cells #[.pointer (some ⟨c, 0, none⟩)] 23)) (.int .i64 rev) 2; rwa [World.size_alloc] at this
  have hB0 : Below w.heap.size w W0 := by rw [hW0]; exact ((Below.refl _ w).alloc (Nat.le_refl _) _).alloc (by simp) _
  have cc : W0.cell? ⟨c, 1, none⟩ = some (.slice ao l.length cap) := (hB0.cell (p := ⟨c, 1, none⟩) hclt).trans (cell_of_row _ _ 1 _ _ _ hv)
  have hR0 := hR.go hB0
  have eg : ∀ args w, (callFunc 28 args).run Try.prog w = .ok (.enter 28 args) w := enters_of Try.func28 (by kernel_rfl) rfl
  have hS := Any.sort_Search Try.search 28 #[.pointer (some ⟨w.heap.size, 0, none⟩), .pointer (some ⟨w.heap.size + 1, 0, none⟩)] l.length (abvI l rev) W0 eg (by omega)
    (fun m os i hi => clo_c w.heap.size (w.heap.size + 1) c ao cap l rev i _ hi (hR0.go (below_grown_sl W0.heap.size W0 m os (Nat.le_refl _))) (cell_grown (by simp [hsize]; omega) ca m os) (cell_grown (by simp [hsize]; omega) cc m os) (cell_grown (by simp [hsize]) cx m os))
    (fun a b hab hb h => by
      rw [abvI_lt (by omega)] at h
      rw [abvI_lt hb]
      have := hs.le (show a < l.length by omega) hb hab
      simp at h ⊢; omega)
  rw [cnt_abvI] at hS
  change Calls Try.prog 27 _ _ _ at hS
  obtain ⟨c0, c1, c2, c3⟩ := cells4 hv
  have c1' : (w.alloc (.cells #[.pointer (some ⟨c, 0, none⟩)] 23)).cell? ⟨c, 1, none⟩ = some (.slice ao l.length cap) := cell_alloc_sl _ c1
  clear hR ca cx hR0 eg ho h c0 c2 c3 hv c1'
  have HS := Lib.hid hS
  have HB0 := Lib.hid hB0
  have HZ := Lib.hid hsize
  have HW0 := Lib.hid hW0
  have hcne : c ≠ w.heap.size := by omega
  have hcne2 : c ≠ w.heap.size + 1 := by omega
  clear hS hB0 hsize hW0 hs cc
  generalize cnt l rev = r at HS ⊢
  go_enter Try.func23, Try.ntmps23
  go_wp2_with (go_at_call 27; rw [← HW0.out]; refine HS.out.mono ?_; rintro e w' ⟨rfl, q, os, rfl⟩)
  go_ret
  refine ⟨rfl, ?_⟩
  exact HB0.out.trans (below_grown_sl w.heap.size W0 q os (by have := HZ.out; omega))
end Go.Proofs.Ytcmcbocegdejjaa.Cl
