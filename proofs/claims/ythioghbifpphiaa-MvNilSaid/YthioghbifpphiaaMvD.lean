/- put at the one key, at a store without chains and at one with its chain; no other condition. -/
import Derived.Test.YthioghbifpphiaaMvC
namespace Go.Proofs.Ythioghbifpphiaa.Mv
open Go.RowKit Go.Lib Go.Maps
open Go.Proofs.Ythioghbifpphiaa.Cn
set_option linter.unusedSimpArgs false
set_option linter.unusedVariables false

theorem set_oth (w : World) (c i : Nat) (u : Value) {k : Nat} (h : k ≠ c) : (w.setCell ⟨c, i, none⟩ u).heap[k]? = w.heap[k]? := Below.heap_setCell _ _ _ _ h
theorem bel_set {B c : Nat} (W : World) (h : B ≤ c) (i : Nat) (u : Value) : Below B W (W.setCell ⟨c, i, none⟩ u) :=
  ⟨rfl, rfl, rfl, by simp [World.setCell], fun k hk => set_oth W c i u (by omega)⟩
theorem bel_grown {B b : Nat} {w w' : World} (h : w.grownBy w' (some b)) (hb : B ≤ b) (hB : B ≤ w.heap.size) : Below B w w' := ⟨h.os, h.tape, h.output, h.size, fun k hk => h.block k (by omega) (fun e => by injection e with e; omega)⟩
theorem IsCh.mono {B B' c N : Nat} {gb : Option Nat} {l : List Ver} {w : World} (h : IsCh B c N gb l w) (hB : B' ≤ B) : IsCh B' c N gb l w := by
  obtain ⟨v, all, k, h1, h2, h3, h4, h5, h6⟩ := h
  exact ⟨v, all, k, h1, h2, h3, h4, h5, OwV.mono h6 hB⟩
theorem eq_nn (w : World) : (binOp BinOp.eql 62 (.map none) (.map none)).run Try.prog w = .ok (.bool true) w := by kernel_rfl
theorem set4 {w : World} {c : Nat} {rev fl ks vs : Int} {mp : Value} (h : w.heap[c]? = some (obS rev fl mp ks vs)) (u : Value) : (w.setCell ⟨c, 4, none⟩ u).heap[c]? = some (obS rev fl u ks vs) := by
  have := Cn.blk_set h 4 u; simpa using this
theorem set7 {w : World} {c : Nat} {rev fl ks vs : Int} {mp : Value} (h : w.heap[c]? = some (obS rev fl mp ks vs)) : (w.setCell ⟨c, 7, none⟩ (.slice none 0 0)).heap[c]? = some (obS rev fl mp ks vs) := by
  have := Cn.blk_set h 7 (.slice none 0 0); simpa using this
set_option maxRecDepth 100000 in
set_option maxHeartbeats 8000000 in
theorem put_0 (B c : Nat) (v : ByteArray) (rev fl vs : Int) (w : World) (h : w.heap[c]? = some (obS rev fl (.map none) 1 vs)) (hB : B ≤ c) (hr : 1 ≤ rev ∧ rev ≤ 100) :
    Calls Try.prog 34 #[.pointer (some ⟨c, 0, none⟩), .agg #[.string kb, .string v, .bool false]] w fun e w' => e = .returned (.tuple #[]) ∧ ∃ b d gb, S1 B c b d 1 gb [(rev, v, false)] rev fl vs w' ∧ Below B w w' := by
  have hcl : c < w.heap.size := (Array.getElem?_eq_some_iff.1 h).1
  obtain ⟨W0, hW0, hk0, hb0⟩ := Cn.new3 w (.string kb) (.string v) (.bool false) 57
  have hz0 : w.heap.size < W0.heap.size := (Array.getElem?_eq_some_iff.1 hk0).1
  have HW0 := Lib.hid hW0
  have HK0 := Lib.hid hk0
  have HB0 : Hid (Below B w W0) := hb0.mono (by omega)
  have HS0 : Hid (W0.heap[c]? = some (obS rev fl (.map none) 1 vs)) := (hb0.block c hcl).trans h
  have hl := look0 W0.drew
  have hmm := @run_makeMap Try.prog
  have henn := eq_nn
  obtain ⟨WM, hWM⟩ : ∃ WM, WM = W0.alloc (.map #[] 0) := ⟨_, rfl⟩
  have hbM : Below W0.heap.size W0 WM := by rw [hWM]; exact (Below.refl _ _).alloc (Nat.le_refl _) _
  have hM : WM.ownsMap Try.prog 9 ptrE W0.heap.size 0 (.map []) := by rw [hWM]; exact World.ownsMap_made W0 _ _ _
  have hSM := (hbM.block c (by omega)).trans HS0.out
  obtain ⟨W3, hW3⟩ : ∃ W3, W3 = (WM.setCell ⟨c, 4, none⟩ (.map (some W0.heap.size))).drew := ⟨_, rfl⟩
  have HS3 : Hid (W3.heap[c]? = some (obS rev fl (.map (some W0.heap.size)) 1 vs)) := by rw [hW3]; exact set4 hSM _
  have HM3 : Hid (W3.ownsMap Try.prog 9 ptrE W0.heap.size 0 (.map [])) := by rw [hW3]; exact own_keep hM (set_oth _ _ _ _ (by omega))
  have HK3 : Hid (W3.heap[w.heap.size]? = some (obC v)) := by
    rw [hW3]
    exact (set_oth _ _ _ _ (by omega)).trans ((hbM.block _ (by omega)).trans HK0.out)
  have HB3 : Hid (Below B w W3) := by
    rw [hW3]
    exact Lib.hid (HB0.out.trans ((hbM.mono (by omega)).trans (bel_set WM hB 4 _)).drew)
  have hz3 : W0.heap.size < W3.heap.size := HM3.out.lt
  have HW3 := Lib.hid hW3
  obtain ⟨c0, c1, c2, c3, c4, c5, c6, c7⟩ := cells8 HS0.out
  obtain ⟨x0, x1, x2⟩ := Cn.cells3 HK0.out
  have m4 : (W0.alloc (.map #[] 0)).cell? ⟨c, 4, none⟩ = some (.map none) := by
    have := cell_of_row _ _ 4 _ _ _ hSM
    rw [hWM] at this
    exact this
  have f4 : (W0.alloc (.map #[] 0)).frozen? ⟨c, 4, none⟩ = false := by
    have := frz hSM 4
    rw [hWM] at this
    exact this
  have HWM := Lib.hid hWM
  have hne : c ≠ W0.heap.size := by omega
  clear h hW0 hk0 hb0 hWM hW3 hbM hM hSM
  go_enter Try.func34, Try.ntmps34
  go_upto_region 1 with (fail)
  rw [← HW0.out]
  go_region
  all_goals
    go_upto_region 5 with (fail)
    rw [← HWM.out, ← HW3.out]
    clear c0 c1 c2 c3 c4 c5 c6 c7 x0 x1 x2 m4 f4
    go_upto_region 6 with (go_at_call 51; (with_reducible refine (New_c W3).mono ?_); rintro e w4 ⟨rfl, hc4, hb4⟩; have HC4 := Lib.hid hc4; have HB4 := Lib.hid hb4; clear hc4 hb4)
    have HS4 : Hid (w4.heap[c]? = some (obS rev fl (.map (some W0.heap.size)) 1 vs)) := (HB4.out.block c (by omega)).trans HS3.out
    have HK4 : Hid (w4.heap[w.heap.size]? = some (obC v)) := (HB4.out.block _ (by omega)).trans HK3.out
    have hM4 : w4.drew.ownsMap Try.prog 9 ptrE W0.heap.size 0 (.map []) := own_keep HM3.out (HB4.out.block _ (by omega))
    obtain ⟨W5, hu, hm5, hg5⟩ := map_new (c := W3.heap.size) hM4
    have hz4 : W3.heap.size < w4.heap.size := HC4.out.lt
    have HM5 := Lib.hid hm5
    have HG5 := Lib.hid hg5
    have hz5 : w4.heap.size ≤ W5.heap.size := hg5.size
    obtain ⟨c0, c1, c2, c3, c4, c5, c6, c7⟩ := cells8 HS4.out
    obtain ⟨x0, x1, x2⟩ := Cn.cells3 HK4.out
    have HS5 : Hid (W5.heap[c]? = some (obS rev fl (.map (some W0.heap.size)) 1 vs)) := (hg5.block c (show c < w4.heap.size by omega) (fun e => by injection e with e; omega)).trans HS4.out
    have HK5 : Hid (W5.heap[w.heap.size]? = some (obC v)) := (hg5.block _ (show w.heap.size < w4.heap.size by omega) (fun e => by injection e with e; omega)).trans HK4.out
    have HC5 : Hid (IsCh W3.heap.size W3.heap.size 0 none [] W5) := by
      obtain ⟨vv, all, k, h1, h2, h3, h4, h5, h6⟩ := HC4.out
      have he : all = [] := List.eq_nil_of_length_eq_zero (by omega)
      subst he
      refine ⟨vv, [], k, h1, h2, h3, h4, (hg5.block _ (show W3.heap.size < w4.heap.size from hz4) (fun e => by injection e with e; omega)).trans h5, ?_⟩
      exact World.ownsRow.kept (row := some W0.heap.size) (w := w4.drew) h6 hg5 (.inr (fun e => by rw [h1] at e; cases e))
    clear hM4 hm5 hg5
    go_region
    all_goals
      clear hu c0 c1 c2 c3 c4 c5 c6 c7 x0 x1 x2
      have f7 := frz HS5.out 7
      have c7 := (cells8 HS5.out).2.2.2.2.2.2.2
      obtain ⟨W6, hW6⟩ : ∃ W6, W6 = W5.setCell ⟨c, 7, none⟩ (.slice none 0 0) := ⟨_, rfl⟩
      have HS6 : Hid (W6.heap[c]? = some (obS rev fl (.map (some W0.heap.size)) 1 vs)) := by rw [hW6]; exact set7 HS5.out
      have o6 : ∀ k, k ≠ c → W6.heap[k]? = W5.heap[k]? := fun k hk => by rw [hW6]; exact set_oth _ _ _ _ hk
      have HK6 : Hid (W6.heap[w.heap.size]? = some (obC v)) := (o6 _ (by omega)).trans HK5.out
      have HM6 : Hid (MapP W0.heap.size W3.heap.size W6) := HM5.out.keep (o6 _ (by omega))
      have hz6 : W6.heap.size = W5.heap.size := by rw [hW6]; simp [World.setCell]
      have HC6 : Hid (IsCh W3.heap.size W3.heap.size 0 none [] W6) := by
        obtain ⟨vv, all, k, h1, h2, h3, h4, h5, h6⟩ := HC5.out
        have he : all = [] := List.eq_nil_of_length_eq_zero (by omega)
        subst he
        refine ⟨vv, [], k, h1, h2, h3, h4, (o6 _ (by omega)).trans h5, ?_⟩
        rw [hW6]
        exact World.ownsRow.kept (row := some c) h6 ⟨rfl, rfl, rfl, by simp [World.setCell], fun q hq hne => set_oth _ _ _ _ (fun e => hne (by rw [e]))⟩ (.inr (fun e => by rw [h1] at e; cases e))
      have hb5 := bel_grown (B := B) (w := w4.drew) HG5.out (by omega) (show B ≤ w4.heap.size by omega)
      have hb5' : Below B w4 W5 := ⟨hb5.os, hb5.tape, hb5.output, hb5.size, hb5.block⟩
      have HB6 : Hid (Below B w W6) := by
        rw [hW6]
        exact Lib.hid (((HB3.out.trans (HB4.out.mono (by omega))).trans hb5').trans (bel_set W5 hB 7 _))
      clear hb5 hb5'
      have HP : Hid (Calls Try.prog 52 #[.pointer (some ⟨W3.heap.size, 0, none⟩), .agg #[.int .i64 rev, .string v, .bool false]] W6.drew (PtQ W3.heap.size W3.heap.size 1 none [(rev, v, false)] 0 W6.drew)) :=
        put_ok W3.heap.size W3.heap.size 0 none [] (rev, v, false) W6.drew (HC6.out.go (bdr W6)) (by omega) (show W3.heap.size ≤ W6.heap.size by omega) hr.1 (by show rev ≤ _; omega) false rfl (by simp)
      unfold PtQ at HP
      go_upto_region 8 with (fail)
      rw [← hW6]
      clear hW6 c7 f7
      obtain ⟨c0, c1, c2, c3, c4, c5, c6, c7⟩ := cells8 HS6.out
      obtain ⟨x0, x1, x2⟩ := Cn.cells3 HK6.out
      go_region_with (go_at_call 52; (with_reducible refine HP.out.mono ?_); rintro e w7 ⟨rfl, gb, hc7, hch7, hnb7⟩; have HC7 := Lib.hid hc7; have HH7 := Lib.hid hch7; have HN7 := Lib.hid hnb7; clear hc7 hch7 hnb7)
      all_goals
        go_end0
        have k7 : ∀ k, k < W6.heap.size → k ≠ W3.heap.size → w7.heap[k]? = W6.heap[k]? := fun k h1 h2 => HH7.out.block k h1 h2 (fun e => by cases e)
        have hgb : ∀ g, gb = some g → W6.heap.size ≤ g := fun g hg => by
          rcases HN7.out with e | e | ⟨q, e, hq⟩
          · rw [e] at hg; cases hg
          · rw [e] at hg; cases hg
          · rw [e] at hg; injection hg with hg; rw [← hg]; exact hq
        refine ⟨rfl, W0.heap.size, W3.heap.size, gb, ⟨(k7 c (by omega) (by omega)).trans HS6.out, HM6.out.keep (k7 _ (by omega) (by omega)), IsCh.mono HC7.out (by omega), by omega, by omega, by omega, fun e => by have := hgb c e; omega, fun e => by have := hgb _ e; omega, List.pairwise_singleton _ _, by omega, by omega, by omega⟩, ?_⟩
        exact (HB6.out.trans ((bdr W6).mono (by omega))).trans (HH7.out.below (show B ≤ W6.heap.size by omega) (by omega) (fun g e => by cases e))
theorem eqp_no (d : Nat) (w : World) : True := trivial
set_option maxRecDepth 100000 in
set_option maxHeartbeats 8000000 in
theorem put_1 {B c b d N : Nat} {gb : Option Nat} {l : List Ver} {rev fl vs : Int} {w : World} (v : ByteArray) (h : S1 B c b d N gb l rev fl vs w) (hN : N ≤ 1000) (hBs : B ≤ w.heap.size) (hr : 1 ≤ rev ∧ rev ≤ 100) (q : Bool) (hl : lastB l = q) (hv : q = true → (lastV l).1 < rev) :
    Calls Try.prog 34 #[.pointer (some ⟨c, 0, none⟩), .agg #[.string kb, .string v, .bool false]] w fun e w' => e = .returned (.tuple #[]) ∧ ∃ gb', S1 B c b d (N + 1) gb' (l ++ [(rev, v, false)]) rev fl vs w' ∧ Below B w w' := by
  obtain ⟨W0, hW0, hk0, hb0⟩ := Cn.new3 w (.string kb) (.string v) (.bool false) 57
  have hcl : c < w.heap.size := (Array.getElem?_eq_some_iff.1 h.hs).1
  have hz0 : w.heap.size < W0.heap.size := (Array.getElem?_eq_some_iff.1 hk0).1
  have H0 := Lib.hid (h.kept hb0)
  have HW0 := Lib.hid hW0
  have HK0 := Lib.hid hk0
  have HB0 : Hid (Below B w W0) := hb0.mono hBs
  have hld := (H0.out.kept (bdr W0)).hm.look
  have H1 := Lib.hid (H0.out.kept (bdr W0))
  obtain ⟨c0, c1, c2, c3, c4, c5, c6, c7⟩ := cells8 H0.out.hs
  obtain ⟨x0, x1, x2⟩ := Cn.cells3 hk0
  have hasc := putL_asc h.asc (rev, v, false)
  have hpe : putE l (rev, v, false) = 0 := by
    unfold putE
    rw [if_neg (by show ¬ (rev < 1 ∨ _ < rev); omega), if_neg]
    intro he
    cases hq : q with
    | false =>
      rw [hq] at hl
      have : l = [] := by unfold lastB at hl; have := of_decide_eq_false hl; exact List.eq_nil_of_length_eq_zero (by omega)
      rw [this] at he; simp at he
    | true =>
      rw [hq] at hl
      have h0 : 0 < l.length := of_decide_eq_true hl
      rw [any_last h.asc rev h0] at he
      have h1 := of_decide_eq_true he
      have h2 := hv hq
      unfold lastV at h2
      rw [getD_at (by omega : l.length - 1 < l.length)] at h2
      omega
  rw [show putL l (rev, v, false) = l ++ [(rev, v, false)] by unfold putL; rw [if_pos hpe]] at hasc
  have HASC := Lib.hid hasc
  clear hW0 hk0 hb0 h hasc hpe
  go_enter Try.func34, Try.ntmps34
  go_upto_region 1 with (fail)
  rw [← HW0.out]
  go_region
  all_goals
    have HP : Hid (Calls Try.prog 52 #[.pointer (some ⟨d, 0, none⟩), .agg #[.int .i64 rev, .string v, .bool false]] W0.drew.drew (PtQ B d (N + 1) gb (l ++ [(rev, v, false)]) 0 W0.drew.drew)) :=
      put_ok B d N gb l (rev, v, false) W0.drew.drew ((H1.out.kept (bdr _)).hc) (by omega) (show B ≤ W0.heap.size by omega) hr.1 (by show rev ≤ _; omega) q hl hv
    unfold PtQ at HP
    go_upto_region 8 with (fail)
    go_region_with (go_at_call 52; (with_reducible refine HP.out.mono ?_); rintro e w7 ⟨rfl, gb7, hc7, hch7, hnb7⟩; have HC7 := Lib.hid hc7; have HH7 := Lib.hid hch7; have HN7 := Lib.hid hnb7; clear hc7 hch7 hnb7)
    all_goals
      go_end0
      have hcb := H0.out.hc.base
      have k7 : ∀ k, k < W0.heap.size → k ≠ d → some k ≠ gb → w7.heap[k]? = W0.heap[k]? := fun k h1 h2 h3 => HH7.out.block k h1 h2 h3
      have hg7 : ∀ g, gb7 = some g → gb = some g ∨ W0.heap.size ≤ g := fun g hg => by
        rcases HN7.out with e | e | ⟨q, e, hq⟩
        · exact .inl (by rw [← e]; exact hg)
        · rw [e] at hg; cases hg
        · rw [e] at hg; injection hg with hg; rw [← hg]; exact .inr hq
      have hbl := H0.out.hm.lt
      have hlo := H0.out.lo
      have hcl2 : c < W0.heap.size := by omega
      refine ⟨rfl, gb7, ⟨(k7 c hcl2 H0.out.cd (fun e => H0.out.gc e.symm)).trans H0.out.hs, H0.out.hm.keep (k7 b hbl H0.out.bd (fun e => H0.out.gb' e.symm)), HC7.out, H0.out.cb, H0.out.cd, H0.out.bd, fun e => ?_, fun e => ?_, HASC.out, H0.out.lo⟩, ?_⟩
      · rcases hg7 c e with h | h
        · exact H0.out.gc h
        · omega
      · rcases hg7 b e with h | h
        · exact H0.out.gb' h
        · omega
      · have hB7 := HH7.out.below (B := B) (show B ≤ W0.heap.size by omega) hlo.2.2 (fun g e => (hcb g e).1)
        exact HB0.out.trans ⟨hB7.os, hB7.tape, hB7.output, hB7.size, hB7.block⟩
end Go.Proofs.Ythioghbifpphiaa.Mv
