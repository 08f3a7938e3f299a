/- The contract of the law's awake: chapter 14's example; where the tables lie as the program's text lays them. -/
import Derived.Test.YtjgbfpkjkglfnaaDoorLbI
namespace Go.Proofs.YtjgbfpkjkglfnaaDoor.Lb
open Go.RowKit Ch Jt
set_option linter.unusedSimpArgs false
set_option linter.unusedVariables false

def exF : List FB := [(⟨#[98]⟩, ⟨#[50]⟩), (⟨#[97]⟩, ⟨#[49]⟩)]
def exG : List FB := [(⟨#[97]⟩, ⟨#[49]⟩), (⟨#[98]⟩, ⟨#[50]⟩)]
theorem ex_bad : exF.any badB = false := by decide +kernel
theorem ex_onc : Onc exF := by decide +kernel
theorem ex_asc : Asc exG := by
  unfold Asc exG
  rw [List.pairwise_cons]
  refine ⟨fun y hy => ?_, by simp⟩
  rw [List.mem_singleton] at hy
  subst hy
  decide +kernel
theorem ex_perm : exG.Perm exF := List.Perm.swap _ _ _
theorem ex_one {gs : List FB} (hp : gs.Perm exF) (ha : Asc gs) : gs = exG := asc_one (hp.trans ex_perm.symm) ha ex_asc ((onc_iff hp).2 ex_onc)
theorem ex_txt : txtL exG = [123, 97, 61, 34, 49, 34, 44, 98, 61, 34, 50, 34, 125] := by decide +kernel
theorem ex_vld : ∀ x ∈ exG, vldB x.2.data.toList = true := by
  intro x hx
  rcases List.mem_cons.1 hx with rfl | hx
  · decide +kernel
  · rcases List.mem_cons.1 hx with rfl | hx
    · decide +kernel
    · cases hx
theorem ex_short : ∀ x ∈ exG, shortF x := by
  intro x hx
  rcases List.mem_cons.1 hx with rfl | hx
  · exact ⟨by decide, by decide⟩
  · rcases List.mem_cons.1 hx with rfl | hx
    · exact ⟨by decide, by decide⟩
    · cases hx
theorem ex_small : ∀ x ∈ exF, smallF x := by
  intro x hx
  rcases List.mem_cons.1 hx with rfl | hx
  · exact ⟨by decide, by decide⟩
  · rcases List.mem_cons.1 hx with rfl | hx
    · exact ⟨by decide, by decide⟩
    · cases hx
set_option maxRecDepth 100000 in
set_option maxHeartbeats 4000000 in
theorem awake_c (w : World) (hE : Ev w) : Calls Tryd.prog 20 #[] w fun e w' => e = .returned (.bool true) ∧ Below w.heap.size w w' := by
  obtain ⟨W1, hW1, hk1, hb1⟩ : ∃ W1, W1 = w.alloc (.cells #[.string ⟨#[98]⟩, .string ⟨#[50]⟩, .string ⟨#[97]⟩, .string ⟨#[49]⟩] 52) ∧ W1.heap[w.heap.size]? = some (.cells #[.string ⟨#[98]⟩, .string ⟨#[50]⟩, .string ⟨#[97]⟩, .string ⟨#[49]⟩] 52 (0, 0)) ∧ Below w.heap.size w W1 := ⟨_, rfl, heap_alloc_new w _, (Below.refl _ _).alloc (Nat.le_refl _) _⟩
  have hrd : RdF (.slice (some ⟨w.heap.size, 0, none⟩) 2 2) exF W1 := ⟨_, _, rfl, fun _ => ⟨w.heap.size, 0, rfl, (Array.getElem?_eq_some_iff.1 hk1).1, fun i hi => by
    have hi2 : i < 2 := hi
    rw [cell_of_row _ _ _ _ _ _ hk1, cell_of_row _ _ _ _ _ _ hk1]
    match i, hi2 with
    | 0, _ => exact ⟨rfl, rfl⟩
    | 1, _ => exact ⟨rfl, rfl⟩⟩⟩
  have HOF := Lib.hid (Of_c _ exF W1 (hE.go hb1) hrd (by decide) ex_small)
  have HW1 := Lib.hid hW1
  have HB1 := Lib.hid hb1
  have HE := Lib.hid hE
  clear hE hW1 hk1 hb1 hrd
  go_enter Tryd.func20, Tryd.ntmps20
  go_wp2_with fail
  rw [← HW1.out]
  clear HW1
  (with_reducible refine HOF.out.mono ?_)
  intro e w2 h2
  obtain ⟨hb2, h2⟩ := h2
  rcases h2 with ⟨h, _⟩ | ⟨_, h, _⟩ | ⟨_, _, ao, cap, gs, _, rfl, hp, ha, hr⟩
  · rw [ex_bad] at h; cases h
  · exact absurd ex_onc h
  obtain rfl := ex_one hp ha
  have HB2 : Hid (Below w.heap.size w w2) := HB1.out.trans (hb2.mono HB1.out.size)
  replace hr : RdF (.slice ao exG.length cap) exG w2 := hr
  obtain ⟨W3, hW3, hk3, hb3⟩ : ∃ W3, W3 = w2.alloc (.cells #[.slice ao 2 cap] 27) ∧ W3.heap[w2.heap.size]? = some (.cells #[.slice ao 2 cap] 27 (0, 0)) ∧ Below w2.heap.size w2 W3 := ⟨_, rfl, heap_alloc_new w2 _, (Below.refl _ _).alloc (Nat.le_refl _) _⟩
  have HB3 : Hid (Below w.heap.size w W3) := HB2.out.trans (hb3.mono HB2.out.size)
  have HSC := Lib.hid (String_c ao cap exG W3 (HE.out.go HB3.out) (hr.go hb3) (by decide) ex_short ex_vld)
  rw [ex_txt, show exG.length = 2 from rfl] at HSC
  have HW3 := Lib.hid hW3
  have HK3 := Lib.hid hk3
  have d0 := cell_of_row _ _ 0 _ _ _ hk3
  have hl3 : w2.heap.size < W3.heap.size := (Array.getElem?_eq_some_iff.1 hk3).1
  clear hb2 hp ha hr hW3 hk3 hb3 HOF HB2
  have e2 : exF.length = 2 := rfl
  rw [e2]
  clear e2
  go_wp2_with fail
  rw [← HW3.out]
  clear HW3
  (with_reducible refine HSC.out.mono ?_)
  rintro e w4 ⟨rfl, hb4⟩
  have HB4 : Hid (Below w.heap.size w w4) := HB3.out.trans (hb4.mono HB3.out.size)
  have HK4 : Hid (w4.heap[w2.heap.size]? = some (.cells #[.slice ao 2 cap] 27 (0, 0))) := (hb4.block _ hl3).trans HK3.out
  clear hb4 d0
  have d4 := cell_of_row _ _ 0 _ _ _ HK4.out
  have HLN := Lib.hid (Len_c ao 2 cap w4 (by decide))
  have q1 : (Jt.mkS [123, 97, 61, 34, 49, 34, 44, 98, 61, 34, 50, 34, 125]).toList = [123, 97, 61, 34, 49, 34, 44, 98, 61, 34, 50, 34, 125] := by rw [Lib.toList_data, Jt.data_mkS]
  go_wp2_with fail
  refine HLN.out.mono ?_
  rintro e w5 ⟨rfl, hb5⟩
  have HB5 : Hid (Below w.heap.size w w5) := HB4.out.trans (hb5.mono HB4.out.size)
  clear hb5 HLN
  go_wp2
  go_ret
  exact ⟨rfl, HB5.out⟩
end Go.Proofs.YtjgbfpkjkglfnaaDoor.Lb
