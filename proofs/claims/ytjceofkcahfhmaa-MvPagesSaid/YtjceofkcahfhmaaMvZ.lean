/- A store of many versions with any keys: keysFrom; no other condition. -/
import Derived.Test.YtjceofkcahfhmaaMvIt
namespace Go.Proofs.Ytjceofkcahfhmaa.Mv
open Go.RowKit Go.Lib Go.Maps Go.Shelf Go.Sort
open Go.Proofs.Ytjceofkcahfhmaa.Cn
set_option linter.unusedSimpArgs false
set_option linter.unusedVariables false

theorem ksearch (c q1 q2 q3 g cap : Nat) (p a : ByteArray) (L : List Key) (W : World) (hL : L.Pairwise (fun a b => a ≤ b)) (hl : L.length ≤ 1000000) (b1 : q1 < W.heap.size) (b2 : q2 < W.heap.size) (b3 : q3 < W.heap.size) (bc : c < W.heap.size) (bg : g < W.heap.size) (h0 : W.cell? ⟨q1, 0, none⟩ = some (.pointer (some ⟨c, 0, none⟩))) (h1 : W.cell? ⟨q2, 0, none⟩ = some (.string p)) (h2 : W.cell? ⟨q3, 0, none⟩ = some (.string a)) (h3 : W.cell? ⟨c, 7, none⟩ = some (.slice (some ⟨g, 0, none⟩) L.length cap)) (h4 : ∀ i (hi : i < L.length), W.cell? ⟨g, 0 + i, none⟩ = some (encStr L[i])) :
    Calls Try.prog 44 #[.int .i64 L.length, .func (.func 45) #[] #[.pointer (some ⟨q1, 0, none⟩), .pointer (some ⟨q2, 0, none⟩), .pointer (some ⟨q3, 0, none⟩)]] W fun e w' => e = .returned (.int .i64 (L.countP (fun x => !kpr p.data.toList a.data.toList x) : Nat)) ∧ Below W.heap.size W w' := by
  have eg : ∀ args w, (callFunc 45 args).run Try.prog w = .ok (.enter 45 args) w := enters_of Try.func45 (by kernel_rfl) rfl
  have hS := Any.sort_Search Try.search 45 #[.pointer (some ⟨q1, 0, none⟩), .pointer (some ⟨q2, 0, none⟩), .pointer (some ⟨q3, 0, none⟩)] L.length (fun i => kpr p.data.toList a.data.toList (L.getD i [])) W eg (by omega)
    (fun m os i hi => kclo_c c q1 q2 q3 g cap p a L i _ hi (cell_grown b1 h0 m os) (cell_grown b2 h1 m os) (cell_grown b3 h2 m os) (cell_grown bc h3 m os) (by
      have := h4 i hi
      rw [show L[i] = L.getD i [] by rw [List.getD_eq_getElem?_getD, List.getElem?_eq_getElem hi]; rfl] at this
      exact cell_grown bg this m os))
    (fun x y hxy hy h => by
      have ex : L.getD x [] = L[x]'(by omega) := by rw [List.getD_eq_getElem?_getD, List.getElem?_eq_getElem (by omega)]; rfl
      have ey : L.getD y [] = L[y]'hy := by rw [List.getD_eq_getElem?_getD, List.getElem?_eq_getElem hy]; rfl
      rw [ex] at h
      rw [ey]
      rcases Nat.lt_or_ge x y with g | g
      · exact kpr_mono (List.pairwise_iff_getElem.1 hL x y (by omega) hy g) h
      · have e : x = y := by omega
        subst e; exact h)
  rw [count_range] at hS
  refine Calls.mono (show Calls Try.prog 44 _ _ _ from hS) ?_
  rintro e w' ⟨rfl, q, os, rfl⟩
  exact ⟨rfl, below_grown_sl W.heap.size W q os (Nat.le_refl _)⟩
theorem ksearch0 (q1 q2 q3 : Nat) (W : World) : Calls Try.prog 44 #[.int .i64 0, .func (.func 45) #[] #[.pointer (some ⟨q1, 0, none⟩), .pointer (some ⟨q2, 0, none⟩), .pointer (some ⟨q3, 0, none⟩)]] W fun e w' => e = .returned (.int .i64 0) ∧ Below W.heap.size W w' := by
  have eg : ∀ args w, (callFunc 45 args).run Try.prog w = .ok (.enter 45 args) w := enters_of Try.func45 (by kernel_rfl) rfl
  have hS := Any.sort_Search Try.search 45 #[.pointer (some ⟨q1, 0, none⟩), .pointer (some ⟨q2, 0, none⟩), .pointer (some ⟨q3, 0, none⟩)] 0 (fun i => true) W eg (by omega) (fun m os i hi => absurd hi (Nat.not_lt_zero _)) (fun _ _ _ _ h => h)
  refine Calls.mono (show Calls Try.prog 44 _ _ _ from hS) ?_
  rintro e w' ⟨rfl, q, os, rfl⟩
  exact ⟨rfl, below_grown_sl W.heap.size W q os (Nat.le_refl _)⟩
theorem eq_ss (g n cap : Nat) (w : World) : (binOp BinOp.eql 35 (.slice (some ⟨g, 0, none⟩) n cap) (.slice none 0 0)).run Try.prog w = .ok (.bool false) w := by kernel_rfl
theorem eq_s0 (w : World) : (binOp BinOp.eql 35 (.slice none 0 0) (.slice none 0 0)).run Try.prog w = .ok (.bool true) w := by kernel_rfl
/-- what keysFrom leaves -/
def KfQ (c N : Nat) (mb : Option Nat) (f : Key → Option Chn) (l0 l9 rev fl ks vs : Int) (od : Value) (K : List Key) (p a : ByteArray) (w : World) (e : Ending) (w' : World) : Prop :=
  ∃ v od', e = .returned v ∧ RdS v ((srt K).filter (kpr p.data.toList a.data.toList)) w' ∧ IsMv 0 c N mb f l0 l9 rev fl ks vs od' w' ∧ OdOk c mb f K od' w' ∧ Fr (fun k => k = c) w w' ∧ ∀ k n cap, od' = .slice (some ⟨k, 0, none⟩) n cap → od = od' ∨ w.heap.size ≤ k
theorem boxes (w : World) (v1 v2 v3 : Value) (t1 t2 t3 : TypeId) : ∃ W, W = ((w.alloc (.cells #[v1] t1)).alloc (.cells #[v2] t2)).alloc (.cells #[v3] t3) ∧ W.heap.size = w.heap.size + 1 + 1 + 1 ∧ W.cell? ⟨w.heap.size, 0, none⟩ = some v1 ∧ W.cell? ⟨w.heap.size + 1, 0, none⟩ = some v2 ∧ W.cell? ⟨w.heap.size + 1 + 1, 0, none⟩ = some v3 ∧ Below w.heap.size w W := by
  refine ⟨_, rfl, by simp, ?_, ?_, ?_, (((Below.refl _ w).alloc (Nat.le_refl _) _).alloc (by simp) _).alloc (by simp; omega) _⟩
  · exact cell_alloc_sl _ (cell_alloc_sl _ (cell_new_sl w _ _))
  · have := cell_new_sl (w.alloc (.cells #[v1] t1)) v2 t2
    rw [World.size_alloc] at this
    exact cell_alloc_sl _ this
  · have := cell_new_sl ((w.alloc (.cells #[v1] t1)).alloc (.cells #[v2] t2)) v3 t3
    rw [World.size_alloc, World.size_alloc] at this
    exact this
theorem rds_drop {g cap k : Nat} {L : List Key} {w : World} (hg : g < w.heap.size) (hc : L.length ≤ cap) (hk : k ≤ L.length) (h : ∀ i (hi : i < L.length), w.cell? ⟨g, 0 + i, none⟩ = some (encStr L[i])) : RdS (.slice (some ⟨g, k, none⟩) (L.length - k) (cap - k)) (L.drop k) w := by
  refine ⟨_, _, by rw [List.length_drop], by rw [List.length_drop]; omega, fun _ => ⟨g, k, rfl, hg, fun i hi => ?_⟩⟩
  have hi' : k + i < L.length := by rw [List.length_drop] at hi; omega
  have e : (L.drop k)[i] = L[k + i] := by simp
  rw [e]
  have := h (k + i) hi'
  rw [Nat.zero_add] at this
  exact this
set_option maxRecDepth 100000 in
set_option maxHeartbeats 4000000 in
theorem kf_A {c N : Nat} {mb : Option Nat} {f : Key → Option Chn} {l0 l9 rev fl ks vs : Int} {g n cap : Nat} {w : World} {K : List Key} (h : IsMv 0 c N mb f l0 l9 rev fl ks vs (.slice (some ⟨g, 0, none⟩) n cap) w) (hKl : K.length ≤ 100000) (hn : K.length = n) (hc : n ≤ cap) (hg : g < w.heap.size) (hno : ¬ Ow c mb f g) (hrow : ∀ i (hi : i < (srt K).length), w.cell? ⟨g, 0 + i, none⟩ = some (encStr (srt K)[i])) (p a : ByteArray) :
    Calls Try.prog 29 #[.pointer (some ⟨c, 0, none⟩), .string p, .string a] w (KfQ c N mb f l0 l9 rev fl ks vs (.slice (some ⟨g, 0, none⟩) n cap) K p a w) := by
  obtain ⟨W0, hW0, hz0, x0, x1, x2, hb0⟩ := boxes w (.pointer (some ⟨c, 0, none⟩)) (.string p) (.string a) 23 9 9
  have HW0 := Lib.hid hW0
  have HB0 := Lib.hid hb0
  have H0 := Lib.hid (h.go hb0)
  have hcl : c < w.heap.size := h.own (.inl rfl)
  obtain ⟨c0, c1, c2, c3, c4, c5, c6, c7⟩ := cells8 H0.out.hs
  have HT := H0
  obtain ⟨WT, hWT⟩ : ∃ WT, WT = W0 := ⟨_, rfl⟩
  have HX0 : Hid (WT.cell? ⟨w.heap.size, 0, none⟩ = some (.pointer (some ⟨c, 0, none⟩))) := by rw [hWT]; exact Lib.hid x0
  have HX1 : Hid (WT.cell? ⟨w.heap.size + 1, 0, none⟩ = some (.string p)) := by rw [hWT]; exact Lib.hid x1
  have HX2 : Hid (WT.cell? ⟨w.heap.size + 1 + 1, 0, none⟩ = some (.string a)) := by rw [hWT]; exact Lib.hid x2
  have hzT : w.heap.size + 1 + 1 + 1 ≤ WT.heap.size := by rw [hWT]; omega
  have HRW : Hid (∀ i (hi : i < (srt K).length), WT.cell? ⟨g, 0 + i, none⟩ = some (encStr (srt K)[i])) := fun i hi => by rw [hWT]; exact (HB0.out.cell (p := ⟨g, 0 + i, none⟩) hg).trans (hrow i hi)
  have HGL : Hid (g < WT.heap.size) := by show _ < _; omega
  have HLN := Lib.hid hn
  rw [← hWT] at HT
  have HOD : Hid (OdOk c mb f K (.slice (some ⟨g, 0, none⟩) n cap) WT) := .inr ⟨g, cap, by rw [HLN.out], by rw [HLN.out]; exact hc, HGL.out, hno, HRW.out⟩
  have HFT : Hid (Fr (fun k => k = c) w WT) := by rw [hWT]; exact Lib.hid (Fr.below HB0.out)
  have heq := eq_ss g n cap
  clear h hW0 hb0 hrow
  go_enter Try.func29, Try.ntmps29
  unfold KfQ
  go_upto_region 1 with (fail)
  rw [← HW0.out]
  rw [← hWT]
  rw [← hWT] at c0 c1 c2 c3 c4 c5 c6 c7 x0 x1 x2
  clear hWT
  go_upto_region 3 with (fail)
  clear c0 c1 c2 c3 c4 c5 c6 c7 x0 x1 x2

  have hcnt := List.countP_le_length (l := srt K) (p := fun x => !kpr p.data.toList a.data.toList x)
  have hdc := drop_count (l := srt K) (q := kpr p.data.toList a.data.toList) ((srt_pair K).imp (fun h => kpr_mono h))
  have hgl := HGL.out
  have HSR := Lib.hid (ksearch c w.heap.size (w.heap.size + 1) (w.heap.size + 1 + 1) g cap p a (srt K) WT (srt_pair K) (by rw [srt_len]; omega) (by omega) (by omega) (by omega) (by omega) (by omega) HX0.out HX1.out HX2.out (by rw [srt_len, HLN.out]; exact (cells8 HT.out.hs).2.2.2.2.2.2.2) HRW.out)
  have HDC := Lib.hid hdc
  have HKN : Hid ((srt K).length = n) := by show _ = _; rw [srt_len]; exact HLN.out
  rw [HKN.out] at hcnt
  rw [HKN.out] at HSR
  generalize (srt K).countP (fun x => !kpr p.data.toList a.data.toList x) = m at HSR HDC hcnt
  clear hdc
  have hm0 : (0 : Int) ≤ (m : Int) := by omega
  have hmn : (m : Int) ≤ (n : Int) := by omega
  have hmc : (m : Int) ≤ (cap : Int) := by omega
  obtain ⟨c0, c1, c2, c3, c4, c5, c6, c7⟩ := cells8 HT.out.hs
  have y0 := HX0.out
  by_cases hkc : m = cap
  · subst hkc
    have hnn : Hid (n = m) := by show _ = _; omega
    go_upto_region 4 with (go_at_call 44; (with_reducible refine HSR.out.mono ?_); rintro e W9 ⟨rfl, hb9⟩; have HB9 := Lib.hid hb9; have z0 := (hb9.cell (p := ⟨w.heap.size, 0, none⟩) (show w.heap.size < WT.heap.size by omega)).trans HX0.out; have z7 := (hb9.cell (p := ⟨c, 7, none⟩) (show c < WT.heap.size by omega)).trans (cells8 HT.out.hs).2.2.2.2.2.2.2; clear hb9)
    clear c0 c1 c2 c3 c4 c5 c6 c7 y0
    go_wp2
    go_ret
    have hnil : (srt K).filter (kpr p.data.toList a.data.toList) = [] := by
      rw [← HDC.out, ← hnn.out, ← HKN.out]; exact List.drop_length
    refine ⟨_, _, rfl, ?_, HT.out.go HB9.out, HOD.out.keep (Fr.below (E := fun _ => False) HB9.out) (fun g hg e => e.elim), HFT.out.trans (Fr.below HB9.out) (fun k hk => .inl hk), fun _ _ _ _ => .inl rfl⟩
    rw [hnil]
    first
      | exact ⟨_, _, rfl, Nat.zero_le _, fun h => absurd h (by decide)⟩
      | exact ⟨_, _, by rw [hnn.out, Nat.sub_self]; rfl, Nat.zero_le _, fun h => absurd h (by decide)⟩
  · have hmz : ¬ (m : Int) = (cap : Int) := by omega
    go_upto_region 4 with (go_at_call 44; (with_reducible refine HSR.out.mono ?_); rintro e W9 ⟨rfl, hb9⟩; have HB9 := Lib.hid hb9; have z0 := (hb9.cell (p := ⟨w.heap.size, 0, none⟩) (show w.heap.size < WT.heap.size by omega)).trans HX0.out; have z7 := (hb9.cell (p := ⟨c, 7, none⟩) (show c < WT.heap.size by omega)).trans (cells8 HT.out.hs).2.2.2.2.2.2.2; clear hb9)
    clear c0 c1 c2 c3 c4 c5 c6 c7 y0
    go_wp2
    go_ret
    refine ⟨_, _, rfl, ?_, HT.out.go HB9.out, HOD.out.keep (Fr.below (E := fun _ => False) HB9.out) (fun g hg e => e.elim), HFT.out.trans (Fr.below HB9.out) (fun k hk => .inl hk), fun _ _ _ _ => .inl rfl⟩
    rw [← HDC.out]
    have := rds_drop (k := m) (cap := cap) hgl (by rw [HKN.out]; omega) (by rw [HKN.out]; omega) HRW.out
    rw [HKN.out] at this
    exact this.go HB9.out
theorem set7v {w : World} {c : Nat} {l0 l9 rev fl ks vs : Int} {mp od : Value} (h : w.heap[c]? = some (obN l0 l9 rev fl mp ks vs od)) (u : Value) : (w.setCell ⟨c, 7, none⟩ u).heap[c]? = some (obN l0 l9 rev fl mp ks vs u) := by
  have := Cn.blk_set h 7 u; simpa using this
theorem keep_set {w : World} {c q : Nat} {l0 l9 rev fl ks vs : Int} {mp od x u : Value} (hq : q ≠ c) (h : w.heap[c]? = some (obN l0 l9 rev fl mp ks vs od)) (hk : w.cell? ⟨q, 0, none⟩ = some x ∧ w.cell? ⟨c, 4, none⟩ = some mp) : (w.setCell ⟨c, 7, none⟩ u).cell? ⟨q, 0, none⟩ = some x ∧ (w.setCell ⟨c, 7, none⟩ u).cell? ⟨c, 4, none⟩ = some mp := by
  refine ⟨?_, (cells8 (set7v h u)).2.2.2.2.1⟩
  rw [World.cell?_of_block (w := w) (a := ⟨q, 0, none⟩) (set_oth w c 7 u hq)]; exact hk.1
set_option maxRecDepth 100000 in
set_option maxHeartbeats 4000000 in
theorem kf_B {c N : Nat} {f : Key → Option Chn} {l0 l9 rev fl ks vs : Int} {w : World} {K : List Key} (h : IsMv 0 c N none f l0 l9 rev fl ks vs (.slice none 0 0) w) (hn : K.length = 0) (p a : ByteArray) :
    Calls Try.prog 29 #[.pointer (some ⟨c, 0, none⟩), .string p, .string a] w (KfQ c N none f l0 l9 rev fl ks vs (.slice none 0 0) K p a w) := by
  obtain ⟨W0, hW0, hz0, x0, x1, x2, hb0⟩ := boxes w (.pointer (some ⟨c, 0, none⟩)) (.string p) (.string a) 23 9 9
  have HW0 := Lib.hid hW0
  have HB0 := Lib.hid hb0
  have H0 := Lib.hid (h.go hb0)
  have hcl : c < w.heap.size := h.own (.inl rfl)
  obtain ⟨c0, c1, c2, c3, c4, c5, c6, c7⟩ := cells8 H0.out.hs
  have HLN := Lib.hid hn
  have heq := eq_s0
  clear h hW0 hb0
  go_enter Try.func29, Try.ntmps29
  unfold KfQ
  go_upto_region 1 with (fail)
  rw [← HW0.out]
  go_upto_region 2 with (fail)
  have HSK : Hid (∀ V : World, Below W0.heap.size W0 V → V.cell? ⟨w.heap.size, 0, none⟩ = some (.pointer (some ⟨c, 0, none⟩)) ∧ V.cell? ⟨c, 4, none⟩ = some (.map none)) := fun V hV => ⟨(hV.cell (p := ⟨w.heap.size, 0, none⟩) (show w.heap.size < W0.heap.size by omega)).trans x0, (hV.cell (p := ⟨c, 4, none⟩) (show c < W0.heap.size by omega)).trans c4⟩
  have HKA := Lib.hid (HSK.out W0.drew (bdr W0))
  have hHc : w.heap.size ≠ c := by omega
  clear c0 c1 c2 c3 c5 c6 c7 x1 x2
  go_region_held3 (fun V => V.cell? ⟨w.heap.size, 0, none⟩ = some (.pointer (some ⟨c, 0, none⟩)) ∧ V.cell? ⟨c, 4, none⟩ = some (.map none))
    (first | (with_reducible exact HKA.out) | (with_reducible exact HK3.out) | (with_reducible exact HK4.out) | (with_reducible exact HK4s.out))
    (first
      | (go_at_call 43; (with_reducible refine (keys_c none W0.drew).mono ?_); rintro e w3 ⟨rfl, hw3⟩; have hz3 : w3.heap.size = W0.heap.size + 1 := by { rw [hw3]; simp }; have hb3 : Below W0.heap.size W0 w3 := by { rw [hw3]; exact (bdr W0).alloc (Nat.le_refl _) _ }; have hm3 : w3.cell? ⟨W0.heap.size, 0, none⟩ = some (.map none) := by { rw [hw3]; exact cell_new_sl W0.drew _ _ }; rw [hz0] at hm3; have HK3 := Lib.hid (HSK.out w3 hb3); have HB3 := Lib.hid hb3; have HM3 := Lib.hid hm3; clear hw3 hb3 hm3)
      | (go_at_call 42; (with_reducible refine (sorted_nil (w.heap.size + 1 + 1 + 1) w3 (by omega) HM3.out).mono ?_); rintro e w4 ⟨rfl, hb4⟩; have hB4 : Below W0.heap.size W0 w4 := HB3.out.trans (hb4.mono (by omega)); have HB4 := Lib.hid hB4; have HK4 := Lib.hid (HSK.out w4 hB4); have hs4 := (H0.out.go hB4).hs; have HK4s := Lib.hid (keep_set (u := .slice none 0 0) hHc hs4 (HSK.out w4 hB4)); have d7 := (cells8 hs4).2.2.2.2.2.2.2; have f7 := frz hs4 7; clear hb4 hB4 hs4))
  all_goals
    clear c4 x0
    obtain ⟨WT, hWT⟩ : ∃ WT, WT = w4.setCell ⟨c, 7, none⟩ (.slice none 0 0) := ⟨_, rfl⟩
    have hT4 : ∀ k, k ≠ c → WT.heap[k]? = w4.heap[k]? := fun k hk => by rw [hWT]; exact set_oth _ _ _ _ hk
    have hzz : WT.heap.size = w4.heap.size := by rw [hWT]; simp [World.setCell]
    have hz4 : W0.heap.size ≤ w4.heap.size := HB4.out.size
    have H4 := H0.out.go HB4.out
    have HT : Hid (IsMv 0 c N none f l0 l9 rev fl ks vs (.slice none 0 0) WT) := H4.cells (by rw [hWT]; exact set7v H4.hs _) (fun k _ hk => hT4 k hk)
    have HX0 : Hid (WT.cell? ⟨w.heap.size, 0, none⟩ = some (.pointer (some ⟨c, 0, none⟩))) := by
      show _ = _
      rw [World.cell?_of_block (w := w4) (a := ⟨w.heap.size, 0, none⟩) (hT4 _ (by omega))]; exact HK4.out.1
    have hzT : w.heap.size + 1 + 1 + 1 ≤ WT.heap.size := by omega
    have HFT : Hid (Fr (fun k => k = c) w WT) := by
      rw [hWT]
      exact Lib.hid (((Fr.below HB0.out).trans (E' := fun k => k = c) (Fr.below HB4.out) (fun k hk => .inl hk)).set _ rfl)
    rw [← hWT]
    clear d7 f7 hWT hT4 hzz H4
    go_upto_region 3 with (fail)
    have HSR := Lib.hid (ksearch0 w.heap.size (w.heap.size + 1) (w.heap.size + 1 + 1) WT)
    obtain ⟨c0, c1, c2, c3, c4, c5, c6, c7⟩ := cells8 HT.out.hs
    have y0 := HX0.out
    go_upto_region 4 with (go_at_call 44; (with_reducible refine HSR.out.mono ?_); rintro e W9 ⟨rfl, hb9⟩; have HB9 := Lib.hid hb9; have z0 := (hb9.cell (p := ⟨w.heap.size, 0, none⟩) (show w.heap.size < WT.heap.size by omega)).trans HX0.out; have z7 := (hb9.cell (p := ⟨c, 7, none⟩) (show c < WT.heap.size by omega)).trans (cells8 HT.out.hs).2.2.2.2.2.2.2; clear hb9)
    clear c0 c1 c2 c3 c4 c5 c6 c7 y0
    go_wp2
    go_ret
    have hnil : (srt K).filter (kpr p.data.toList a.data.toList) = [] := by
      have : srt K = [] := List.eq_nil_of_length_eq_zero (by rw [srt_len, HLN.out])
      rw [this]; rfl
    refine ⟨_, _, rfl, ?_, HT.out.go HB9.out, .inl rfl, HFT.out.trans (Fr.below HB9.out) (fun k hk => .inl hk), fun k n cap e => by cases e⟩
    rw [hnil]
    exact ⟨_, _, rfl, Nat.zero_le _, fun h => absurd h (by decide)⟩
theorem row_open {B n : Nat} {v : Value} {L : List Key} {W : World} (h : W.ownsRow B 9 1 v n (L.map encStr)) (hl : L.length = n) (h0 : 0 < n) : ∃ g cap, v = .slice (some ⟨g, 0, none⟩) n cap ∧ n ≤ cap ∧ B ≤ g ∧ g < W.heap.size ∧ ∀ i (hi : i < L.length), W.cell? ⟨g, 0 + i, none⟩ = some (encStr L[i]) := by
  rcases h.2 with ⟨_, h, _⟩ | ⟨g, cap, cur, hv, hB, hgh, hn, hm, hz, htk⟩
  · omega
  · refine ⟨g, cap, hv, hn, hB, (Array.getElem?_eq_some_iff.1 hgh).1, fun i hi => ?_⟩
    rw [Nat.zero_add, cell_of_row _ _ _ _ _ _ hgh]
    have e1 : cur[i]? = (L.map encStr)[i]? := by
      rw [← htk, List.getElem?_take_of_lt (by omega), Array.getElem?_toList]
    rw [e1, List.getElem?_map, List.getElem?_eq_getElem hi]; rfl
theorem keys_perm {W : World} {b n : Nat} {D : DataW Unit} {K : List Key} (h : W.ownsMap Try.prog 9 ptrE b n D) (hm : MapS D K) : (strKeys D).Perm K := by
  obtain ⟨es, rfl, hp, hk⟩ := h.entries law
  have hstr : ∀ p ∈ es, p.1 = .string (strOf p.1) := fun p hpe => by
    have hh : Maps.has (.map es) p.1 = true := by
      rw [has_eq, List.any_eq_true]
      exact ⟨p, hpe, WideAt.sameKey_self (hk p hpe)⟩
    by_cases hs : ∃ k, p.1 = .string k
    · obtain ⟨k, e⟩ := hs
      rw [e]; rfl
    · rw [hm.oth p.1 (fun k e => hs ⟨k, e⟩)] at hh; cases hh
  have hnd : (strKeys (.map es)).Nodup := by
    show (es.map fun p => strOf p.1).Nodup
    rw [List.nodup_iff_pairwise_ne, List.pairwise_map]
    refine List.Pairwise.imp_of_mem ?_ hp
    intro a b ha hb hne e
    exact hne (by rw [hstr a ha, hstr b hb, e])
  refine (List.perm_ext_iff_of_nodup hnd hm.nd).2 fun k => ?_
  have h1 : k ∈ strKeys (.map es) ↔ Maps.has (.map es) (.string k) = true := by
    rw [has_eq, List.any_eq_true]
    constructor
    · intro hh
      obtain ⟨p, hp1, rfl⟩ := List.mem_map.1 hh
      exact ⟨p, hp1, by rw [← hstr p hp1]; exact WideAt.sameKey_self (hk p hp1)⟩
    · rintro ⟨p, hp1, hp2⟩
      have e := WideAt.sameKey_eq hp2
      exact List.mem_map.2 ⟨p, hp1, by rw [e]; rfl⟩
  rw [h1, hm.str]
  exact ⟨of_decide_eq_true, decide_eq_true⟩
set_option maxRecDepth 100000 in
set_option maxHeartbeats 4000000 in
theorem kf_C {c N b : Nat} {f : Key → Option Chn} {l0 l9 rev fl ks vs : Int} {w : World} {K : List Key} (h : IsMv 0 c N (some b) f l0 l9 rev fl ks vs (.slice none 0 0) w) (hK : Dm f K) (hKl : K.length ≤ 100000) (hn : K.length = 0) (p a : ByteArray) :
    Calls Try.prog 29 #[.pointer (some ⟨c, 0, none⟩), .string p, .string a] w (KfQ c N (some b) f l0 l9 rev fl ks vs (.slice none 0 0) K p a w) := by
  obtain ⟨W0, hW0, hz0, x0, x1, x2, hb0⟩ := boxes w (.pointer (some ⟨c, 0, none⟩)) (.string p) (.string a) 23 9 9
  have HW0 := Lib.hid hW0
  have HB0 := Lib.hid hb0
  have H0 := Lib.hid (h.go hb0)
  have hcl : c < w.heap.size := h.own (.inl rfl)
  obtain ⟨c0, c1, c2, c3, c4, c5, c6, c7⟩ := cells8 H0.out.hs
  obtain ⟨D, hD, hMP⟩ : ∃ D, w.ownsMap Try.prog 9 ptrE b (Maps.size D) D ∧ MapF D (blkOf f) := by
    rcases h.mp with ⟨e, _⟩ | ⟨b', e, _, _, D, h1, h2⟩
    · cases e
    · injection e with e; subst e; exact ⟨D, h1, h2⟩
  have hMS : MapS D K := mapF_S hMP hK.1 (fun k => by rw [← hK.2 k]; unfold blkOf; cases f k <;> rfl)
  have hpm := keys_perm hD hMS
  have hds : Maps.size D = K.length := msize hD hMP hK.1 (fun k => by rw [← hK.2 k]; unfold blkOf; cases f k <;> rfl)
  have hbl : b < w.heap.size := hD.lt
  have HDD := Lib.hid hD
  have HPM := Lib.hid hpm
  have hd1 : Maps.size D ≤ maxLen := by rw [hds]; unfold maxLen; omega
  have hd2 : Maps.size D * 16 ≤ 140737488355328 := by rw [hds]; omega
  have hno : ∀ k, Ow c (some b) f k → k < w.heap.size := fun k hk => h.own hk
  have HLN := Lib.hid hn
  have heq := eq_s0
  clear h hW0 hb0 hD hMP hMS hpm hno
  go_enter Try.func29, Try.ntmps29
  unfold KfQ
  go_upto_region 1 with (fail)
  rw [← HW0.out]
  go_upto_region 2 with (fail)
  have HSK : Hid (∀ V : World, Below W0.heap.size W0 V → V.cell? ⟨w.heap.size, 0, none⟩ = some (.pointer (some ⟨c, 0, none⟩)) ∧ V.cell? ⟨c, 4, none⟩ = some (.map (some b))) := fun V hV => ⟨(hV.cell (p := ⟨w.heap.size, 0, none⟩) (show w.heap.size < W0.heap.size by omega)).trans x0, (hV.cell (p := ⟨c, 4, none⟩) (show c < W0.heap.size by omega)).trans c4⟩
  have HKA := Lib.hid (HSK.out W0.drew (bdr W0))
  have hHc : w.heap.size ≠ c := by omega
  clear c0 c1 c2 c3 c5 c6 c7 x1 x2
  go_region_held3 (fun V => V.cell? ⟨w.heap.size, 0, none⟩ = some (.pointer (some ⟨c, 0, none⟩)) ∧ V.cell? ⟨c, 4, none⟩ = some (.map (some b)))
    (first | (with_reducible exact HKA.out) | (with_reducible exact HK3.out) | (with_reducible exact HK4.out) | (with_reducible exact HK4s.out))
    (first
      | (go_at_call 43; (with_reducible refine (keys_c (some b) W0.drew).mono ?_); rintro e w3 ⟨rfl, hw3⟩; have hz3 : w3.heap.size = W0.heap.size + 1 := by { rw [hw3]; simp }; have hb3 : Below W0.heap.size W0 w3 := by { rw [hw3]; exact (bdr W0).alloc (Nat.le_refl _) _ }; have hm3 : w3.cell? ⟨W0.heap.size, 0, none⟩ = some (.map (some b)) := by { rw [hw3]; exact cell_new_sl W0.drew _ _ }; rw [hz0] at hm3; have HK3 := Lib.hid (HSK.out w3 hb3); have HB3 := Lib.hid hb3; have HM3 := Lib.hid hm3; clear hw3 hb3 hm3)
      | (go_at_call 42; have HO3 : w3.ownsMap Try.prog 9 ptrE b (Maps.size D) D := own_keep HDD.out ((HB3.out.block b (by omega)).trans (HB0.out.block b hbl)); (with_reducible refine (sorted_c (w.heap.size + 1 + 1 + 1) b _ D ptrE w3 (by omega) HM3.out HO3 hd1 hd2).mono ?_); rintro e w4 ⟨v, ss, rfl, hS, hrow, hnil, hb4⟩; obtain rfl := hnil.2 (List.eq_nil_of_length_eq_zero (by rw [(hS.trans HPM.out).length_eq, HLN.out])); clear hrow hnil; have hB4 : Below W0.heap.size W0 w4 := HB3.out.trans (hb4.mono (by omega)); have HB4 := Lib.hid hB4; have HK4 := Lib.hid (HSK.out w4 hB4); have hs4 := (H0.out.go hB4).hs; have HK4s := Lib.hid (keep_set (u := .slice none 0 0) hHc hs4 (HSK.out w4 hB4)); have d7 := (cells8 hs4).2.2.2.2.2.2.2; have f7 := frz hs4 7; clear hb4 hB4 hs4 hS HO3))
  all_goals
    clear c4 x0
    obtain ⟨WT, hWT⟩ : ∃ WT, WT = w4.setCell ⟨c, 7, none⟩ (.slice none 0 0) := ⟨_, rfl⟩
    have hT4 : ∀ k, k ≠ c → WT.heap[k]? = w4.heap[k]? := fun k hk => by rw [hWT]; exact set_oth _ _ _ _ hk
    have hzz : WT.heap.size = w4.heap.size := by rw [hWT]; simp [World.setCell]
    have hz4 : W0.heap.size ≤ w4.heap.size := HB4.out.size
    have H4 := H0.out.go HB4.out
    have HT : Hid (IsMv 0 c N (some b) f l0 l9 rev fl ks vs (.slice none 0 0) WT) := H4.cells (by rw [hWT]; exact set7v H4.hs _) (fun k _ hk => hT4 k hk)
    have HX0 : Hid (WT.cell? ⟨w.heap.size, 0, none⟩ = some (.pointer (some ⟨c, 0, none⟩))) := by
      show _ = _
      rw [World.cell?_of_block (w := w4) (a := ⟨w.heap.size, 0, none⟩) (hT4 _ (by omega))]; exact HK4.out.1
    have hzT : w.heap.size + 1 + 1 + 1 ≤ WT.heap.size := by omega
    have HFT : Hid (Fr (fun k => k = c) w WT) := by
      rw [hWT]
      exact Lib.hid (((Fr.below HB0.out).trans (E' := fun k => k = c) (Fr.below HB4.out) (fun k hk => .inl hk)).set _ rfl)
    rw [← hWT]
    clear d7 f7 hWT hT4 hzz H4
    go_upto_region 3 with (fail)
    have HSR := Lib.hid (ksearch0 w.heap.size (w.heap.size + 1) (w.heap.size + 1 + 1) WT)
    obtain ⟨c0, c1, c2, c3, c4, c5, c6, c7⟩ := cells8 HT.out.hs
    have y0 := HX0.out
    go_upto_region 4 with (go_at_call 44; (with_reducible refine HSR.out.mono ?_); rintro e W9 ⟨rfl, hb9⟩; have HB9 := Lib.hid hb9; have z0 := (hb9.cell (p := ⟨w.heap.size, 0, none⟩) (show w.heap.size < WT.heap.size by omega)).trans HX0.out; have z7 := (hb9.cell (p := ⟨c, 7, none⟩) (show c < WT.heap.size by omega)).trans (cells8 HT.out.hs).2.2.2.2.2.2.2; clear hb9)
    clear c0 c1 c2 c3 c4 c5 c6 c7 y0
    go_wp2
    go_ret
    have hnil : (srt K).filter (kpr p.data.toList a.data.toList) = [] := by
      have : srt K = [] := List.eq_nil_of_length_eq_zero (by rw [srt_len, HLN.out])
      rw [this]; rfl
    refine ⟨_, _, rfl, ?_, HT.out.go HB9.out, .inl rfl, HFT.out.trans (Fr.below HB9.out) (fun k hk => .inl hk), fun k n cap e => by cases e⟩
    rw [hnil]
    exact ⟨_, _, rfl, Nat.zero_le _, fun h => absurd h (by decide)⟩
set_option maxRecDepth 100000 in
set_option maxHeartbeats 4000000 in
theorem kf_D {c N b : Nat} {f : Key → Option Chn} {l0 l9 rev fl ks vs : Int} {w : World} {K : List Key} (h : IsMv 0 c N (some b) f l0 l9 rev fl ks vs (.slice none 0 0) w) (hK : Dm f K) (hKl : K.length ≤ 100000) (hp : 0 < K.length) (p a : ByteArray) :
    Calls Try.prog 29 #[.pointer (some ⟨c, 0, none⟩), .string p, .string a] w (KfQ c N (some b) f l0 l9 rev fl ks vs (.slice none 0 0) K p a w) := by
  obtain ⟨W0, hW0, hz0, x0, x1, x2, hb0⟩ := boxes w (.pointer (some ⟨c, 0, none⟩)) (.string p) (.string a) 23 9 9
  have HW0 := Lib.hid hW0
  have HB0 := Lib.hid hb0
  have H0 := Lib.hid (h.go hb0)
  have hcl : c < w.heap.size := h.own (.inl rfl)
  obtain ⟨c0, c1, c2, c3, c4, c5, c6, c7⟩ := cells8 H0.out.hs
  obtain ⟨D, hD, hMP⟩ : ∃ D, w.ownsMap Try.prog 9 ptrE b (Maps.size D) D ∧ MapF D (blkOf f) := by
    rcases h.mp with ⟨e, _⟩ | ⟨b', e, _, _, D, h1, h2⟩
    · cases e
    · injection e with e; subst e; exact ⟨D, h1, h2⟩
  have hMS : MapS D K := mapF_S hMP hK.1 (fun k => by rw [← hK.2 k]; unfold blkOf; cases f k <;> rfl)
  have hpm := keys_perm hD hMS
  have hds : Maps.size D = K.length := msize hD hMP hK.1 (fun k => by rw [← hK.2 k]; unfold blkOf; cases f k <;> rfl)
  have hbl : b < w.heap.size := hD.lt
  have HDD := Lib.hid hD
  have HPM := Lib.hid hpm
  have hd1 : Maps.size D ≤ maxLen := by rw [hds]; unfold maxLen; omega
  have hd2 : Maps.size D * 16 ≤ 140737488355328 := by rw [hds]; omega
  have hno : ∀ k, Ow c (some b) f k → k < w.heap.size := fun k hk => h.own hk
  obtain ⟨n, hn⟩ : ∃ n, K.length = n := ⟨_, rfl⟩
  have HLN := Lib.hid hn
  have heq := eq_s0
  have HNO := Lib.hid hno
  have HX1a := Lib.hid x1
  have HX2a := Lib.hid x2
  have hpn : 0 < n := by omega
  clear h hW0 hb0 hD hMP hMS hpm hno
  go_enter Try.func29, Try.ntmps29
  unfold KfQ
  go_upto_region 1 with (fail)
  rw [← HW0.out]
  go_upto_region 2 with (fail)
  have HSK : Hid (∀ V : World, Below W0.heap.size W0 V → V.cell? ⟨w.heap.size, 0, none⟩ = some (.pointer (some ⟨c, 0, none⟩)) ∧ V.cell? ⟨c, 4, none⟩ = some (.map (some b))) := fun V hV => ⟨(hV.cell (p := ⟨w.heap.size, 0, none⟩) (show w.heap.size < W0.heap.size by omega)).trans x0, (hV.cell (p := ⟨c, 4, none⟩) (show c < W0.heap.size by omega)).trans c4⟩
  have HKA := Lib.hid (HSK.out W0.drew (bdr W0))
  have hHc : w.heap.size ≠ c := by omega
  clear c0 c1 c2 c3 c5 c6 c7 x1 x2
  go_region_held3 (fun V => V.cell? ⟨w.heap.size, 0, none⟩ = some (.pointer (some ⟨c, 0, none⟩)) ∧ V.cell? ⟨c, 4, none⟩ = some (.map (some b)))
    (first | (with_reducible exact HKA.out) | (with_reducible exact HK3.out) | (with_reducible exact HK4.out) | (with_reducible exact HK4s.out))
    (first
      | (go_at_call 43; (with_reducible refine (keys_c (some b) W0.drew).mono ?_); rintro e w3 ⟨rfl, hw3⟩; have hz3 : w3.heap.size = W0.heap.size + 1 := by { rw [hw3]; simp }; have hb3 : Below W0.heap.size W0 w3 := by { rw [hw3]; exact (bdr W0).alloc (Nat.le_refl _) _ }; have hm3 : w3.cell? ⟨W0.heap.size, 0, none⟩ = some (.map (some b)) := by { rw [hw3]; exact cell_new_sl W0.drew _ _ }; rw [hz0] at hm3; have HK3 := Lib.hid (HSK.out w3 hb3); have HB3 := Lib.hid hb3; have HM3 := Lib.hid hm3; clear hw3 hb3 hm3)
      | (go_at_call 42; have HO3 : w3.ownsMap Try.prog 9 ptrE b (Maps.size D) D := own_keep HDD.out ((HB3.out.block b (by omega)).trans (HB0.out.block b hbl)); (with_reducible refine (sorted_c (w.heap.size + 1 + 1 + 1) b _ D ptrE w3 (by omega) HM3.out HO3 hd1 hd2).mono ?_); rintro e w4 ⟨v, ss, rfl, hS, hrow, hnil, hb4⟩; have hpp := hS.trans HPM.out; have hss : ss.length = n := by { rw [hpp.length_eq]; exact HLN.out }; rw [show ss.mergeSort (fun x y => decide (x ≤ y)) = srt K from srt_perm hpp, hss] at hrow; obtain ⟨g, cap, rfl, r1, r2, r3, r4⟩ := row_open hrow (by rw [srt_len]; exact HLN.out) hpn; have HR1 := Lib.hid r1; have HR2 := Lib.hid r2; have HR3 := Lib.hid r3; have HR4 := Lib.hid r4; clear hrow hnil hpp hss r1 r2 r3 r4; have hB4 : Below W0.heap.size W0 w4 := HB3.out.trans (hb4.mono (by omega)); have HB4 := Lib.hid hB4; have HK4 := Lib.hid (HSK.out w4 hB4); have hs4 := (H0.out.go hB4).hs; have HK4s := Lib.hid (keep_set (u := .slice (some ⟨g, 0, none⟩) n cap) hHc hs4 (HSK.out w4 hB4)); have d7 := (cells8 hs4).2.2.2.2.2.2.2; have f7 := frz hs4 7; clear hb4 hB4 hs4 hS HO3))
  all_goals
    clear c4 x0
    obtain ⟨WT, hWT⟩ : ∃ WT, WT = w4.setCell ⟨c, 7, none⟩ (.slice (some ⟨g, 0, none⟩) n cap) := ⟨_, rfl⟩
    have hT4 : ∀ k, k ≠ c → WT.heap[k]? = w4.heap[k]? := fun k hk => by rw [hWT]; exact set_oth _ _ _ _ hk
    have hzz : WT.heap.size = w4.heap.size := by rw [hWT]; simp [World.setCell]
    have hz4 : W0.heap.size ≤ w4.heap.size := HB4.out.size
    have H4 := H0.out.go HB4.out
    have HT : Hid (IsMv 0 c N (some b) f l0 l9 rev fl ks vs (.slice (some ⟨g, 0, none⟩) n cap) WT) := H4.cells (by rw [hWT]; exact set7v H4.hs _) (fun k _ hk => hT4 k hk)
    have HX0 : Hid (WT.cell? ⟨w.heap.size, 0, none⟩ = some (.pointer (some ⟨c, 0, none⟩))) := by
      show _ = _
      rw [World.cell?_of_block (w := w4) (a := ⟨w.heap.size, 0, none⟩) (hT4 _ (by omega))]; exact HK4.out.1
    have hzT : w.heap.size + 1 + 1 + 1 ≤ WT.heap.size := by omega
    have HFT : Hid (Fr (fun k => k = c) w WT) := by
      rw [hWT]
      exact Lib.hid (((Fr.below HB0.out).trans (E' := fun k => k = c) (Fr.below HB4.out) (fun k hk => .inl hk)).set _ rfl)
    have HX1 : Hid (WT.cell? ⟨w.heap.size + 1, 0, none⟩ = some (.string p)) := by
      show _ = _
      rw [World.cell?_of_block (w := w4) (a := ⟨w.heap.size + 1, 0, none⟩) (hT4 (w.heap.size + 1) (by omega))]; exact (HB4.out.cell (p := ⟨w.heap.size + 1, 0, none⟩) (show w.heap.size + 1 < W0.heap.size by omega)).trans HX1a.out
    have HX2 : Hid (WT.cell? ⟨w.heap.size + 1 + 1, 0, none⟩ = some (.string a)) := by
      show _ = _
      rw [World.cell?_of_block (w := w4) (a := ⟨w.heap.size + 1 + 1, 0, none⟩) (hT4 (w.heap.size + 1 + 1) (by omega))]; exact (HB4.out.cell (p := ⟨w.heap.size + 1 + 1, 0, none⟩) (show w.heap.size + 1 + 1 < W0.heap.size by omega)).trans HX2a.out
    have hgW : w.heap.size ≤ g := by have := HR2.out; omega
    have HGL : Hid (g < WT.heap.size) := by show _ < _; have := HR3.out; omega
    have hc := HR1.out
    have HRW : Hid (∀ i (hi : i < (srt K).length), WT.cell? ⟨g, 0 + i, none⟩ = some (encStr (srt K)[i])) := fun i hi => by
      rw [World.cell?_of_block (w := w4) (a := ⟨g, 0 + i, none⟩) (hT4 g (by omega))]; exact HR4.out i hi
    have HOD : Hid (OdOk c (some b) f K (.slice (some ⟨g, 0, none⟩) n cap) WT) := .inr ⟨g, cap, by rw [HLN.out], by rw [HLN.out]; exact hc, HGL.out, fun e => by have := HNO.out g e; omega, HRW.out⟩
    rw [← hWT]
    clear d7 f7 hWT hT4 H4
    have heq2 := eq_ss g n cap
    go_upto_region 3 with (fail)
    have hcnt := List.countP_le_length (l := srt K) (p := fun x => !kpr p.data.toList a.data.toList x)
    have hdc := drop_count (l := srt K) (q := kpr p.data.toList a.data.toList) ((srt_pair K).imp (fun h => kpr_mono h))
    have hgl := HGL.out
    have HSR := Lib.hid (ksearch c w.heap.size (w.heap.size + 1) (w.heap.size + 1 + 1) g cap p a (srt K) WT (srt_pair K) (by rw [srt_len]; omega) (by omega) (by omega) (by omega) (by omega) (by omega) HX0.out HX1.out HX2.out (by rw [srt_len, HLN.out]; exact (cells8 HT.out.hs).2.2.2.2.2.2.2) HRW.out)
    have HDC := Lib.hid hdc
    have HKN : Hid ((srt K).length = n) := by show _ = _; rw [srt_len]; exact HLN.out
    rw [HKN.out] at hcnt
    rw [HKN.out] at HSR
    generalize (srt K).countP (fun x => !kpr p.data.toList a.data.toList x) = m at HSR HDC hcnt
    clear hdc
    have hm0 : (0 : Int) ≤ (m : Int) := by omega
    have hmn : (m : Int) ≤ (n : Int) := by omega
    have hmc : (m : Int) ≤ (cap : Int) := by omega
    obtain ⟨c0, c1, c2, c3, c4, c5, c6, c7⟩ := cells8 HT.out.hs
    have y0 := HX0.out
    by_cases hkc : m = cap
    · subst hkc
      have hnn : Hid (n = m) := by show _ = _; omega
      go_upto_region 4 with (go_at_call 44; (with_reducible refine HSR.out.mono ?_); rintro e W9 ⟨rfl, hb9⟩; have HB9 := Lib.hid hb9; have z0 := (hb9.cell (p := ⟨w.heap.size, 0, none⟩) (show w.heap.size < WT.heap.size by omega)).trans HX0.out; have z7 := (hb9.cell (p := ⟨c, 7, none⟩) (show c < WT.heap.size by omega)).trans (cells8 HT.out.hs).2.2.2.2.2.2.2; clear hb9)
      clear c0 c1 c2 c3 c4 c5 c6 c7 y0
      go_wp2
      go_ret
      have hnil : (srt K).filter (kpr p.data.toList a.data.toList) = [] := by
        rw [← HDC.out, ← hnn.out, ← HKN.out]; exact List.drop_length
      refine ⟨_, _, rfl, ?_, HT.out.go HB9.out, HOD.out.keep (Fr.below (E := fun _ => False) HB9.out) (fun g hg e => e.elim), HFT.out.trans (Fr.below HB9.out) (fun k hk => .inl hk), fun k n' cap' e => .inr (by injection e with e1; injection e1 with e1; injection e1 with e1; omega)⟩
      rw [hnil]
      first
        | exact ⟨_, _, rfl, Nat.zero_le _, fun h => absurd h (by decide)⟩
        | exact ⟨_, _, by rw [hnn.out, Nat.sub_self]; rfl, Nat.zero_le _, fun h => absurd h (by decide)⟩
    · have hmz : ¬ (m : Int) = (cap : Int) := by omega
      go_upto_region 4 with (go_at_call 44; (with_reducible refine HSR.out.mono ?_); rintro e W9 ⟨rfl, hb9⟩; have HB9 := Lib.hid hb9; have z0 := (hb9.cell (p := ⟨w.heap.size, 0, none⟩) (show w.heap.size < WT.heap.size by omega)).trans HX0.out; have z7 := (hb9.cell (p := ⟨c, 7, none⟩) (show c < WT.heap.size by omega)).trans (cells8 HT.out.hs).2.2.2.2.2.2.2; clear hb9)
      clear c0 c1 c2 c3 c4 c5 c6 c7 y0
      go_wp2
      go_ret
      refine ⟨_, _, rfl, ?_, HT.out.go HB9.out, HOD.out.keep (Fr.below (E := fun _ => False) HB9.out) (fun g hg e => e.elim), HFT.out.trans (Fr.below HB9.out) (fun k hk => .inl hk), fun k n' cap' e => .inr (by injection e with e1; injection e1 with e1; injection e1 with e1; omega)⟩
      rw [← HDC.out]
      have := rds_drop (k := m) (cap := cap) hgl (by rw [HKN.out]; omega) (by rw [HKN.out]; omega) HRW.out
      rw [HKN.out] at this
      exact this.go HB9.out
theorem keysFrom_c {c N : Nat} {mb : Option Nat} {f : Key → Option Chn} {l0 l9 rev fl ks vs : Int} {od : Value} {w : World} {K : List Key} (h : IsMv 0 c N mb f l0 l9 rev fl ks vs od w) (hK : Dm f K) (hKl : K.length ≤ 100000) (ho : OdOk c mb f K od w) (p a : ByteArray) :
    Calls Try.prog 29 #[.pointer (some ⟨c, 0, none⟩), .string p, .string a] w (KfQ c N mb f l0 l9 rev fl ks vs od K p a w) := by
  rcases ho with rfl | ⟨g, cap, rfl, h1, h2, h3, h4⟩
  · cases mb with
    | none =>
      refine kf_B h ?_ p a
      have hfn : ∀ k, f k = none := by
        rcases h.mp with ⟨_, e⟩ | ⟨b, e, _⟩
        · exact e
        · cases e
      cases K with
      | nil => rfl
      | cons k K =>
        have := hK.2 k
        rw [hfn k] at this
        simp at this
    | some b =>
      by_cases h0 : K.length = 0
      · exact kf_C h hK hKl h0 p a
      · exact kf_D h hK hKl (by omega) p a
  · exact kf_A h hKl rfl h1 h2 h3 h4 p a
end Go.Proofs.Ytjceofkcahfhmaa.Mv
