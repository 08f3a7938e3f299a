/- Contracts of package etag's cut and One: for every text of at most a thousand bytes. -/
import Derived.Test.YtojmjdgapfcjfaaDoorEtCut
namespace Go.Proofs.YtojmjdgapfcjfaaDoor.Et
open Go.RowKit Ch
set_option linter.unusedSimpArgs false
set_option linter.unusedVariables false

theorem cutT_none {l : List UInt8} (h : ¬ ((unW l).head? = some 34 ∧ 34 ∈ (unW l).drop 1 ∧ mkA (cutP 34 ((unW l).drop 1)).1 = true)) : cutT l = none := by unfold cutT; rw [cutQ_eq, if_neg h]
theorem cutT_yes {l : List UInt8} (h1 : (unW l).head? = some 34) (h2 : 34 ∈ (unW l).drop 1) (h3 : mkA (cutP 34 ((unW l).drop 1)).1 = true) : cutT l = some ((isW l, (cutP 34 ((unW l).drop 1)).1), (cutP 34 ((unW l).drop 1)).2) := by unfold cutT; rw [cutQ_eq, if_pos ⟨h1, h2, h3⟩]
theorem ctv_no {l : List UInt8} (h : cutT l = none) : ctV l = .returned (.tuple #[.agg #[.bool false, .string ⟨#[]⟩], .string ⟨#[]⟩, .bool false]) := by unfold ctV; rw [h]
theorem ctv_yes {l : List UInt8} {t : TagL} {b : List UInt8} (h : cutT l = some (t, b)) : ctV l = .returned (.tuple #[.agg #[.bool t.1, .string (mkS t.2)], .string (mkS b), .bool true]) := by unfold ctV; rw [h]
theorem unW_len (l : List UInt8) : (unW l).length ≤ l.length := by unfold unW; split <;> simp
theorem res_blk (w : World) (n : Nat) : ((w.alloc (.cells #[.bool false, .string ⟨#[]⟩] 28)).drewN n).heap[w.heap.size]? = some (.cells #[.bool false, .string ⟨#[]⟩] 28 (0, 0)) := heap_alloc_new w _
theorem res_bel (w : World) (n : Nat) : Below w.heap.size w ((w.alloc (.cells #[.bool false, .string ⟨#[]⟩] 28)).drewN n) := by
  have h := (Below.refl w.heap.size w).alloc (Nat.le_refl _) (.cells #[.bool false, .string ⟨#[]⟩] 28)
  exact ⟨h.os, h.tape, h.output, h.size, h.block⟩
theorem frz2 {w : World} {g : Nat} {cs : Array Value} {t : TypeId} (h : w.heap[g]? = some (.cells cs t (0, 0))) (j : Nat) : w.frozen? ⟨g, j, none⟩ = false := by simp [World.frozen?, h]
theorem blk_set {w : World} {g : Nat} {cs : Array Value} {t : TypeId} (h : w.heap[g]? = some (.cells cs t (0, 0))) (j : Nat) (v : Value) : (w.setCell ⟨g, j, none⟩ v).heap[g]? = some (.cells (cs.setIfInBounds j v) t (0, 0)) := by
  simp [World.setCell, Array.getElem?_modify, h]
theorem set2 {w : World} {g : Nat} {a b : Value} {t : TypeId} (h : w.heap[g]? = some (.cells #[a, b] t (0, 0))) (x y : Value) : ((w.setCell ⟨g, 0, none⟩ x).setCell ⟨g, 1, none⟩ y).heap[g]? = some (.cells #[x, y] t (0, 0)) := by
  have := blk_set (blk_set h 0 x) 1 y
  simpa using this
set_option maxRecDepth 100000 in
set_option maxHeartbeats 1000000 in
theorem cut_bg (s su sr sx sy : ByteArray) (iw en al : Bool) (w : World)
    (HP : Hid (∀ W, Calls Tryd.prog 35 #[.string s, .string ⟨#[87, 47]⟩] W fun e w' => e = .returned (.tuple #[.string su, .bool iw]) ∧ w' = W))
    (HQ : Hid (∀ W, Calls Tryd.prog 35 #[.string su, .string ⟨#[34]⟩] W fun e w' => e = .returned (.tuple #[.string sr, .bool false]) ∧ w' = W))
    (HC : Hid (∀ W, Calls Tryd.prog 36 #[.string sr, .string ⟨#[34]⟩] W fun e w' => e = .returned (.tuple #[.string sx, .string sy, .bool en]) ∧ ∃ n, w' = W.drewN n))
    (HA : Hid (∀ W, Calls Tryd.prog 22 #[.string sx, .func (.func 23) #[] #[]] W fun e w' => e = .returned (.bool al) ∧ W = w')) :
    Calls Tryd.prog 25 #[.string s] w fun e w' => e = .returned (.tuple #[.agg #[.bool false, .string ⟨#[]⟩], .string ⟨#[]⟩, .bool false]) ∧ Below w.heap.size w w' := by
  go_enter Tryd.func25, Tryd.ntmps25
  go_wp2_with fail
  refine (HP.out _).mono ?_
  rintro e w1 ⟨rfl, hw⟩
  rw [hw]; clear hw
  go_wp2_with fail
  refine (HQ.out _).mono ?_
  rintro e w2 ⟨rfl, hw⟩
  rw [hw]; clear hw
  go_wp2_with fail
  refine (HC.out _).mono ?_
  rintro e w3 ⟨rfl, n, hw⟩
  rw [hw]; clear hw
  have HK := Lib.hid (res_blk w n)
  have HB := Lib.hid (res_bel w n)
  revert HK HB
  generalize (w.alloc (.cells #[.bool false, .string ⟨#[]⟩] 28)).drewN n = wn
  intro HK HB
  have c0 := cell_of_row _ _ 0 _ _ _ HK.out
  have c1 := cell_of_row _ _ 1 _ _ _ HK.out
  have z0 := frz2 HK.out 0
  have z1 := frz2 HK.out 1
  go_wp2
  have H2 := set2 HK.out (.bool false) (.string ⟨#[]⟩)
  have d0 := cell_of_row _ _ 0 _ _ _ H2
  have d1 := cell_of_row _ _ 1 _ _ _ H2
  clear c0 c1 z0 z1
  refine bodyPost_ret (v := .tuple #[.agg #[.bool false, .string ⟨#[]⟩], .string ⟨#[]⟩, .bool false]) (by simp [results, Tryd.results25, go_sem, d0, d1]) rfl ⟨rfl, ?_⟩
  exact (HB.out.setCell (p := ⟨w.heap.size, 0, none⟩) (Nat.le_refl _) _).setCell (p := ⟨w.heap.size, 1, none⟩) (Nat.le_refl _) _
set_option maxRecDepth 100000 in
set_option maxHeartbeats 1000000 in
theorem cut_en (s su sr sx sy : ByteArray) (iw al : Bool) (w : World)
    (HP : Hid (∀ W, Calls Tryd.prog 35 #[.string s, .string ⟨#[87, 47]⟩] W fun e w' => e = .returned (.tuple #[.string su, .bool iw]) ∧ w' = W))
    (HQ : Hid (∀ W, Calls Tryd.prog 35 #[.string su, .string ⟨#[34]⟩] W fun e w' => e = .returned (.tuple #[.string sr, .bool true]) ∧ w' = W))
    (HC : Hid (∀ W, Calls Tryd.prog 36 #[.string sr, .string ⟨#[34]⟩] W fun e w' => e = .returned (.tuple #[.string sx, .string sy, .bool false]) ∧ ∃ n, w' = W.drewN n))
    (HA : Hid (∀ W, Calls Tryd.prog 22 #[.string sx, .func (.func 23) #[] #[]] W fun e w' => e = .returned (.bool al) ∧ W = w')) :
    Calls Tryd.prog 25 #[.string s] w fun e w' => e = .returned (.tuple #[.agg #[.bool false, .string ⟨#[]⟩], .string ⟨#[]⟩, .bool false]) ∧ Below w.heap.size w w' := by
  go_enter Tryd.func25, Tryd.ntmps25
  go_wp2_with fail
  refine (HP.out _).mono ?_
  rintro e w1 ⟨rfl, hw⟩
  rw [hw]; clear hw
  go_wp2_with fail
  refine (HQ.out _).mono ?_
  rintro e w2 ⟨rfl, hw⟩
  rw [hw]; clear hw
  go_wp2_with fail
  refine (HC.out _).mono ?_
  rintro e w3 ⟨rfl, n, hw⟩
  rw [hw]; clear hw
  have HK := Lib.hid (res_blk w n)
  have HB := Lib.hid (res_bel w n)
  revert HK HB
  generalize (w.alloc (.cells #[.bool false, .string ⟨#[]⟩] 28)).drewN n = wn
  intro HK HB
  have c0 := cell_of_row _ _ 0 _ _ _ HK.out
  have c1 := cell_of_row _ _ 1 _ _ _ HK.out
  have z0 := frz2 HK.out 0
  have z1 := frz2 HK.out 1
  go_wp2
  have H2 := set2 HK.out (.bool false) (.string ⟨#[]⟩)
  have d0 := cell_of_row _ _ 0 _ _ _ H2
  have d1 := cell_of_row _ _ 1 _ _ _ H2
  clear c0 c1 z0 z1
  refine bodyPost_ret (v := .tuple #[.agg #[.bool false, .string ⟨#[]⟩], .string ⟨#[]⟩, .bool false]) (by simp [results, Tryd.results25, go_sem, d0, d1]) rfl ⟨rfl, ?_⟩
  exact (HB.out.setCell (p := ⟨w.heap.size, 0, none⟩) (Nat.le_refl _) _).setCell (p := ⟨w.heap.size, 1, none⟩) (Nat.le_refl _) _
set_option maxRecDepth 100000 in
set_option maxHeartbeats 1000000 in
theorem cut_al (s su sr sx sy : ByteArray) (iw : Bool) (w : World)
    (HP : Hid (∀ W, Calls Tryd.prog 35 #[.string s, .string ⟨#[87, 47]⟩] W fun e w' => e = .returned (.tuple #[.string su, .bool iw]) ∧ w' = W))
    (HQ : Hid (∀ W, Calls Tryd.prog 35 #[.string su, .string ⟨#[34]⟩] W fun e w' => e = .returned (.tuple #[.string sr, .bool true]) ∧ w' = W))
    (HC : Hid (∀ W, Calls Tryd.prog 36 #[.string sr, .string ⟨#[34]⟩] W fun e w' => e = .returned (.tuple #[.string sx, .string sy, .bool true]) ∧ ∃ n, w' = W.drewN n))
    (HA : Hid (∀ W, Calls Tryd.prog 22 #[.string sx, .func (.func 23) #[] #[]] W fun e w' => e = .returned (.bool false) ∧ W = w')) :
    Calls Tryd.prog 25 #[.string s] w fun e w' => e = .returned (.tuple #[.agg #[.bool false, .string ⟨#[]⟩], .string ⟨#[]⟩, .bool false]) ∧ Below w.heap.size w w' := by
  go_enter Tryd.func25, Tryd.ntmps25
  go_wp2_with fail
  refine (HP.out _).mono ?_
  rintro e w1 ⟨rfl, hw⟩
  rw [hw]; clear hw
  go_wp2_with fail
  refine (HQ.out _).mono ?_
  rintro e w2 ⟨rfl, hw⟩
  rw [hw]; clear hw
  go_wp2_with fail
  refine (HC.out _).mono ?_
  rintro e w3 ⟨rfl, n, hw⟩
  rw [hw]; clear hw
  have HK := Lib.hid (res_blk w n)
  have HB := Lib.hid (res_bel w n)
  revert HK HB
  generalize (w.alloc (.cells #[.bool false, .string ⟨#[]⟩] 28)).drewN n = wn
  intro HK HB
  have c0 := cell_of_row _ _ 0 _ _ _ HK.out
  have c1 := cell_of_row _ _ 1 _ _ _ HK.out
  have z0 := frz2 HK.out 0
  have z1 := frz2 HK.out 1
  go_wp2_with fail
  refine (HA.out _).mono ?_
  rintro e w4 ⟨rfl, hw⟩
  rw [← hw]; clear hw
  go_wp2
  have H2 := set2 HK.out (.bool false) (.string ⟨#[]⟩)
  have d0 := cell_of_row _ _ 0 _ _ _ H2
  have d1 := cell_of_row _ _ 1 _ _ _ H2
  clear c0 c1 z0 z1
  refine bodyPost_ret (v := .tuple #[.agg #[.bool false, .string ⟨#[]⟩], .string ⟨#[]⟩, .bool false]) (by simp [results, Tryd.results25, go_sem, d0, d1]) rfl ⟨rfl, ?_⟩
  exact (HB.out.setCell (p := ⟨w.heap.size, 0, none⟩) (Nat.le_refl _) _).setCell (p := ⟨w.heap.size, 1, none⟩) (Nat.le_refl _) _
set_option maxRecDepth 100000 in
set_option maxHeartbeats 1000000 in
theorem cut_ok (s su sr sx sy : ByteArray) (iw : Bool) (w : World)
    (HP : Hid (∀ W, Calls Tryd.prog 35 #[.string s, .string ⟨#[87, 47]⟩] W fun e w' => e = .returned (.tuple #[.string su, .bool iw]) ∧ w' = W))
    (HQ : Hid (∀ W, Calls Tryd.prog 35 #[.string su, .string ⟨#[34]⟩] W fun e w' => e = .returned (.tuple #[.string sr, .bool true]) ∧ w' = W))
    (HC : Hid (∀ W, Calls Tryd.prog 36 #[.string sr, .string ⟨#[34]⟩] W fun e w' => e = .returned (.tuple #[.string sx, .string sy, .bool true]) ∧ ∃ n, w' = W.drewN n))
    (HA : Hid (∀ W, Calls Tryd.prog 22 #[.string sx, .func (.func 23) #[] #[]] W fun e w' => e = .returned (.bool true) ∧ W = w')) :
    Calls Tryd.prog 25 #[.string s] w fun e w' => e = .returned (.tuple #[.agg #[.bool iw, .string sx], .string sy, .bool true]) ∧ Below w.heap.size w w' := by
  go_enter Tryd.func25, Tryd.ntmps25
  go_wp2_with fail
  refine (HP.out _).mono ?_
  rintro e w1 ⟨rfl, hw⟩
  rw [hw]; clear hw
  go_wp2_with fail
  refine (HQ.out _).mono ?_
  rintro e w2 ⟨rfl, hw⟩
  rw [hw]; clear hw
  go_wp2_with fail
  refine (HC.out _).mono ?_
  rintro e w3 ⟨rfl, n, hw⟩
  rw [hw]; clear hw
  have HK := Lib.hid (res_blk w n)
  have HB := Lib.hid (res_bel w n)
  revert HK HB
  generalize (w.alloc (.cells #[.bool false, .string ⟨#[]⟩] 28)).drewN n = wn
  intro HK HB
  have c0 := cell_of_row _ _ 0 _ _ _ HK.out
  have c1 := cell_of_row _ _ 1 _ _ _ HK.out
  have z0 := frz2 HK.out 0
  have z1 := frz2 HK.out 1
  go_wp2_with fail
  refine (HA.out _).mono ?_
  rintro e w4 ⟨rfl, hw⟩
  rw [← hw]; clear hw
  go_wp2
  have H2 := set2 HK.out (.bool iw) (.string sx)
  have d0 := cell_of_row _ _ 0 _ _ _ H2
  have d1 := cell_of_row _ _ 1 _ _ _ H2
  clear c0 c1 z0 z1
  refine bodyPost_ret (v := .tuple #[.agg #[.bool iw, .string sx], .string sy, .bool true]) (by simp [results, Tryd.results25, go_sem, d0, d1]) rfl ⟨rfl, ?_⟩
  exact (HB.out.setCell (p := ⟨w.heap.size, 0, none⟩) (Nat.le_refl _) _).setCell (p := ⟨w.heap.size, 1, none⟩) (Nat.le_refl _) _
theorem hq_bg {u : List UInt8} (h : ¬ u.head? = some 34) : (if u.head? = some 34 then u.drop 1 else u) = u := if_neg h
theorem cut_c (s : ByteArray) (w : World) (hs : s.size ≤ 1000) : Calls Tryd.prog 25 #[.string s] w fun e w' => e = ctV s.data.toList ∧ Below w.heap.size w w' := by
  have HP := Lib.hid (fun W => pre_c s ⟨#[87, 47]⟩ W)
  have hl : s.data.toList.length ≤ 1000 := by rw [← Lib.size_eq]; exact hs
  revert HP hl
  generalize s.data.toList = l
  intro HP hl
  rw [show (ByteArray.mk #[87, 47]).data.toList = [87, 47] from rfl, hasP_W, trimP_W] at HP
  have hu := unW_len l
  have HQ := Lib.hid (fun W => pre_c (mkS (unW l)) ⟨#[34]⟩ W)
  rw [data_mkS, show (ByteArray.mk #[34]).data.toList = [34] from rfl, hasP_q, trimP_q] at HQ
  by_cases h34 : (unW l).head? = some 34
  · rw [if_pos h34, decide_eq_true h34] at HQ
    have hr : ((unW l).drop 1).length ≤ 1000 := by rw [List.length_drop]; omega
    have HC := Lib.hid (fun W => scut_c (mkS ((unW l).drop 1)) 34 W (by rw [size_mkS]; omega))
    rw [data_mkS] at HC
    unfold cutV at HC
    have hcl := cutP_len 34 ((unW l).drop 1)
    have HA := Lib.hid (fun W => all_c (mkS (cutP 34 ((unW l).drop 1)).1) W (by rw [size_mkS]; omega))
    rw [data_mkS] at HA
    by_cases hm : 34 ∈ (unW l).drop 1
    · rw [decide_eq_true hm] at HC
      cases ha : mkA (cutP 34 ((unW l).drop 1)).1 with
      | true =>
        rw [ha] at HA
        rw [ctv_yes (cutT_yes h34 hm ha)]
        exact cut_ok s _ _ _ _ _ w HP HQ HC HA
      | false =>
        rw [ha] at HA
        rw [ctv_no (cutT_none (fun g => by rw [g.2.2] at ha; cases ha))]
        exact cut_al s _ _ _ _ _ w HP HQ HC HA
    · rw [decide_eq_false hm] at HC
      rw [ctv_no (cutT_none (fun g => hm g.2.1))]
      exact cut_en s _ _ _ _ _ _ w HP HQ HC HA
  · rw [if_neg h34, decide_eq_false h34] at HQ
    have HC := Lib.hid (fun W => scut_c (mkS (unW l)) 34 W (by rw [size_mkS]; omega))
    rw [data_mkS] at HC
    unfold cutV at HC
    have hcl := cutP_len 34 (unW l)
    have HA := Lib.hid (fun W => all_c (mkS (cutP 34 (unW l)).1) W (by rw [size_mkS]; omega))
    rw [data_mkS] at HA
    rw [ctv_no (cutT_none (fun g => h34 g.1))]
    exact cut_bg s _ _ _ _ _ _ _ w HP HQ HC HA
end Go.Proofs.YtojmjdgapfcjfaaDoor.Et
