/- The contract of package reply's ofLines, put together; walks of package reply's Parse, way by way. -/
import Derived.Test.YtolfenachbbjdaaDoorRpL
namespace Go.Proofs.YtolfenachbbjdaaDoor.Rp
open Go.RowKit Ch Hd
set_option linter.unusedSimpArgs false
set_option linter.unusedVariables false

theorem ol_cons (p : ByteArray) (r : List ByteArray) (body : ByteArray) : ofLnL (p :: r) body = if Lib.hasPrefix p.data.toList verL = false then none else
    if rE (cutP 32 (Lib.trimPrefix p.data.toList verL)).1 ≠ 0 then none else
      match fldsA [] (lnsL (rN (cutP 32 (Lib.trimPrefix p.data.toList verL)).1) r) with
      | none => none
      | some fs => some (rN (cutP 32 (Lib.trimPrefix p.data.toList verL)).1, fs, ofBody (rN (cutP 32 (Lib.trimPrefix p.data.toList verL)).1) body) := rfl
theorem tp_len (l p : List UInt8) : (Lib.trimPrefix l p).length ≤ l.length := by
  unfold Lib.trimPrefix
  split
  · rw [List.length_drop]; omega
  · exact Nat.le_refl _
theorem ofLines_c (g : Nat) (ps : List ByteArray) (body : ByteArray) (w : World) (hL : LnS g 0 ps w) (h1 : 1 ≤ ps.length) (hm : ps.length ≤ 1000000) (hsz : ∀ p ∈ ps, p.size ≤ 5000000) (hd : ∀ p r, ps = p :: r → (cutP 32 (Lib.trimPrefix p.data.toList verL)).1.length ≤ 1000) :
    Calls Tryd.prog 34 #[.slice (some ⟨g, 0, none⟩) ps.length ps.length, .string body] w fun e w' => OlQ w.heap.size (ofLnL ps body) e w' ∧ Below w.heap.size w w' := by
  match ps, hL, h1, hm, hsz, hd with
  | p :: r, hL, h1, hm, hsz, hd =>
    have h0 : w.cell? ⟨g, 0, none⟩ = some (.string p) := hL.2 0 (by simp)
    have hLr : LnS g 1 r w := ⟨hL.1, fun i hi => by
      have h := hL.2 (i + 1) (by simpa using hi)
      rw [show 0 + (i + 1) = 1 + i by omega] at h
      exact h⟩
    have hrs : ∀ l ∈ r, l.size ≤ 5000000 := fun l hl => hsz l (List.mem_cons_of_mem _ hl)
    have hrl : r.length ≤ 999999 := by rw [List.length_cons] at hm; omega
    have HP : ∀ W, Calls Tryd.prog 49 #[.string p, .string ⟨#[72, 84, 84, 80, 47, 49, 46, 49, 32]⟩] W fun e w' => e = .returned (.tuple #[.string (mkS (Lib.trimPrefix p.data.toList verL)), .bool (Lib.hasPrefix p.data.toList verL)]) ∧ w' = W := fun W => cutp_c p ⟨#[72, 84, 84, 80, 47, 49, 46, 49, 32]⟩ W
    rw [List.length_cons]
    cases hq : Lib.hasPrefix p.data.toList verL with
    | false =>
      simp only [hq] at HP
      have e : ofLnL (p :: r) body = none := by rw [ol_cons, if_pos hq]
      exact (ol_a p g r.length body _ w h0 hL.1 (Lib.hid HP)).mono fun e1 w' hh => ⟨olq_no e hh.1, hh.2⟩
    | true =>
      simp only [hq] at HP
      have hts : (mkS (Lib.trimPrefix p.data.toList verL)).size ≤ 5000000 := by
        rw [size_mkS]
        have h1 := hsz p (List.mem_cons_self ..)
        have h2 := Lib.size_eq p
        have h3 := tp_len p.data.toList verL
        omega
      have HC := fun W => scut_c (mkS (Lib.trimPrefix p.data.toList verL)) 32 W hts
      unfold cutV at HC
      rw [data_mkS] at HC
      have HS := fun W => Nu.size_c (mkS (cutP 32 (Lib.trimPrefix p.data.toList verL)).1) W (by rw [size_mkS]; exact hd p r rfl)
      rw [data_mkS] at HS
      change ∀ W, Calls _ _ _ W fun e w' => e = .returned (.tuple #[.int .i64 (rN (cutP 32 (Lib.trimPrefix p.data.toList verL)).1), .int .i64 (rE (cutP 32 (Lib.trimPrefix p.data.toList verL)).1)]) ∧ W = w' at HS
      by_cases he : rE (cutP 32 (Lib.trimPrefix p.data.toList verL)).1 = 0
      · have e : ofLnL (p :: r) body = match fldsA [] (lnsL (rN (cutP 32 (Lib.trimPrefix p.data.toList verL)).1) r) with | none => none | some fs => some (rN (cutP 32 (Lib.trimPrefix p.data.toList verL)).1, fs, ofBody (rN (cutP 32 (Lib.trimPrefix p.data.toList verL)).1) body) := by
          rw [ol_cons, if_neg (by simp [hq]), if_neg (by simp [he])]
        simp only [he] at HS
        rw [e]
        generalize rN (cutP 32 (Lib.trimPrefix p.data.toList verL)).1 = n at HS ⊢
        have HO := fun W => Of_c n body W
        have HB := fun W => Bare_c n W
        cases hb : barB n with
        | true =>
          simp only [hb] at HB
          have hln : lnsL n r = r := by unfold lnsL; rw [if_pos hb]
          rw [hln]
          match r, hLr, hrs, hrl with
          | [], hLr, hrs, hrl => exact ol_bar0 p g 0 [] body _ _ _ _ _ n _ w h0 hL.1 (by omega) (Lib.hid hLr) rfl (Lib.hid hrs) (Lib.hid rfl) (Lib.hid HP) (Lib.hid HC) (Lib.hid HS) (Lib.hid HO) (Lib.hid HB)
          | l :: t, hLr, hrs, hrl =>
            rw [List.length_cons]
            exact ol_bar p g t.length (l :: t) body _ _ _ _ _ n _ w h0 hL.1 (by rw [List.length_cons] at hrl; omega) (Lib.hid hLr) (List.length_cons ..) (Lib.hid hrs) (Lib.hid rfl) (Lib.hid HP) (Lib.hid HC) (Lib.hid HS) (Lib.hid HO) (Lib.hid HB)
        | false =>
          simp only [hb] at HB
          have hln : lnsL n r = r.take (r.length - 1) := by unfold lnsL; rw [if_neg (by simp [hb])]
          rw [hln]
          match r, hLr, hrs, hrl with
          | [], hLr, hrs, hrl => exact ol_zero p g 0 [] body _ _ _ _ _ n _ w h0 hL.1 (by omega) (Lib.hid hLr) rfl (Lib.hid hrs) (Lib.hid rfl) (Lib.hid HP) (Lib.hid HC) (Lib.hid HS) (Lib.hid HO) (Lib.hid HB)
          | l :: t, hLr, hrs, hrl =>
            rw [List.length_cons, Nat.add_sub_cancel]
            have hlt : ((l :: t).take t.length).length = t.length := by rw [List.length_take, List.length_cons]; omega
            have hL2 : LnS g 1 ((l :: t).take t.length) w := ⟨hLr.1, fun i hi => by
              have h := hLr.2 i (by rw [hlt] at hi; rw [List.length_cons]; omega)
              rw [List.getElem_take]
              exact h⟩
            exact ol_more p g t.length ((l :: t).take t.length) body _ _ _ _ _ n _ w h0 hL.1 (by rw [List.length_cons] at hrl; omega) (Lib.hid hL2) hlt (Lib.hid (fun x hx => hrs x (List.mem_of_mem_take hx))) (Lib.hid rfl) (Lib.hid HP) (Lib.hid HC) (Lib.hid HS) (Lib.hid HO) (Lib.hid HB)
      · have e : ofLnL (p :: r) body = none := by rw [ol_cons, if_neg (by simp [hq]), if_pos he]
        have hne : (rE (cutP 32 (Lib.trimPrefix p.data.toList verL)).1 != 0) = true := by simp [he]
        exact (ol_b p g r.length body _ _ _ _ _ _ w h0 hL.1 hne (Lib.hid HP) (Lib.hid HC) (Lib.hid HS)).mono fun e1 w' hh => ⟨olq_no e hh.1, hh.2⟩
theorem zr_set {w V : World} (h : Zr w V) (x y z : Value) : (((V.setCell ⟨w.heap.size, 0, none⟩ x).setCell ⟨w.heap.size, 1, none⟩ y).setCell ⟨w.heap.size, 2, none⟩ z).heap[w.heap.size]? = some (.cells #[x, y, z] 31 (0, 0)) ∧ Below w.heap.size w (((V.setCell ⟨w.heap.size, 0, none⟩ x).setCell ⟨w.heap.size, 1, none⟩ y).setCell ⟨w.heap.size, 2, none⟩ z) :=
  ⟨st3 h.2 x y z, ((h.1.setCell (p := ⟨w.heap.size, 0, none⟩) (Nat.le_refl _) _).setCell (p := ⟨w.heap.size, 1, none⟩) (Nat.le_refl _) _).setCell (p := ⟨w.heap.size, 2, none⟩) (Nat.le_refl _) _⟩
set_option maxRecDepth 100000 in
set_option maxHeartbeats 4000000 in
theorem pa_a (s top bh : ByteArray) (w : World) (HM : Hid (Mx w))
    (HC : Hid (∀ W, Mx W → Calls Tryd.prog 31 #[.string s, .string ⟨#[13, 10, 13, 10]⟩] W fun e w' => e = .returned (.tuple #[.string top, .string bh, .bool false]) ∧ ∃ n, w' = W.drewN n)) :
    Calls Tryd.prog 14 #[.string s] w fun e w' => e = .returned (.tuple #[.agg #[.int .i64 0, .slice none 0 0, .string ⟨#[]⟩], .int .i64 0, .int .i64 11]) ∧ Below w.heap.size w w' := by
  have HZ := Lib.hid (Zr.new w)
  have HM1 : Hid (Mx (w.alloc (.cells #[.int .i64 0, .slice none 0 0, .string ⟨#[]⟩] 31))) := HM.out.go ((Below.refl _ _).alloc (Nat.le_refl _) _)
  go_enter Tryd.func14, Tryd.ntmps14
  go_wp2_with fail
  refine (HC.out _ HM1.out).mono ?_
  rintro e w2 ⟨rfl, nd, hw⟩
  have HZ2 : Hid (Zr w w2) := by show Zr w w2; rw [hw]; exact HZ.out.go (bel_drewN _ _)
  clear hw HZ
  obtain ⟨c0, c1, c2⟩ := cells3 HZ2.out.2
  have z0 := frz2 HZ2.out.2 0
  have z1 := frz2 HZ2.out.2 1
  have z2 := frz2 HZ2.out.2 2
  have HH := Lib.hid (zr_set HZ2.out (.int .i64 0) (.slice none 0 0) (.string ⟨#[]⟩)).1
  have HHB := Lib.hid (zr_set HZ2.out (.int .i64 0) (.slice none 0 0) (.string ⟨#[]⟩)).2
  go_wp2
  obtain ⟨d0, d1, d2⟩ := cells3 HH.out
  clear c0 c1 c2 z0 z1 z2
  (with_reducible refine bodyPost_ret (v := .tuple #[.agg #[.int .i64 0, .slice none 0 0, .string ⟨#[]⟩], .int .i64 0, .int .i64 11]) (by simp [results, Tryd.results14, go_sem, d0, d1, d2]) rfl ⟨rfl, HHB.out⟩)
set_option maxRecDepth 100000 in
set_option maxHeartbeats 4000000 in
theorem pa_b (s top bh : ByteArray) (w : World) (HM : Hid (Mx w))
    (HC : Hid (∀ W, Mx W → Calls Tryd.prog 31 #[.string s, .string ⟨#[13, 10, 13, 10]⟩] W fun e w' => e = .returned (.tuple #[.string top, .string bh, .bool true]) ∧ ∃ n, w' = W.drewN n))
    (lst : ByteArray) (k : Nat) (ps : List ByteArray) (hk : k ≤ 1000000) (hbh : bh.size ≤ 10000000) (HLA : Hid (∀ g W, LnS g 0 ps W → W.cell? ⟨g, k, none⟩ = some (.string lst)))
    (HSP : Hid (∀ W, Mx W → Calls Tryd.prog 32 #[.string top, .string ⟨#[13, 10]⟩] W fun e w' => e = .returned (.slice (some ⟨W.heap.size, 0, none⟩) (k + 1) (k + 1)) ∧ LnS W.heap.size 0 ps w' ∧ Below W.heap.size W w'))
    (m : Nat) (HLE : Hid (∀ W, Calls Tryd.prog 33 #[.string lst, .int .i64 (bh.size : Int)] W fun e w' => e = .returned (.tuple #[.int .i64 0, .bool false]) ∧ Below W.heap.size W w')) :
    Calls Tryd.prog 14 #[.string s] w fun e w' => e = .returned (.tuple #[.agg #[.int .i64 0, .slice none 0 0, .string ⟨#[]⟩], .int .i64 0, .int .i64 11]) ∧ Below w.heap.size w w' := by
  have HZ := Lib.hid (Zr.new w)
  have HM1 : Hid (Mx (w.alloc (.cells #[.int .i64 0, .slice none 0 0, .string ⟨#[]⟩] 31))) := HM.out.go ((Below.refl _ _).alloc (Nat.le_refl _) _)
  go_enter Tryd.func14, Tryd.ntmps14
  go_wp2_with fail
  refine (HC.out _ HM1.out).mono ?_
  rintro e w2 ⟨rfl, nd, hw⟩
  have HZ2 : Hid (Zr w w2) := by show Zr w w2; rw [hw]; exact HZ.out.go (bel_drewN _ _)
  clear hw HZ
  have HM2 : Hid (Mx w2) := HM.out.go HZ2.out.1
  go_wp2_with fail
  refine (HSP.out _ HM2.out).mono ?_
  rintro e w3 ⟨rfl, hl3, hb3⟩
  have HL3 := Lib.hid hl3
  have HZ3 := Lib.hid (HZ2.out.go hb3)
  have p0 := HLA.out _ _ hl3
  clear hl3 hb3
  generalize w2.heap.size = g at HL3 p0 ⊢
  go_wp2_with fail
  refine (HLE.out _).mono ?_
  rintro e w4 ⟨rfl, hb4⟩
  have HZ4 := Lib.hid (HZ3.out.go hb4)
  have HL4 := Lib.hid (HL3.out.go hb4)
  clear hb4 p0
  obtain ⟨c0, c1, c2⟩ := cells3 HZ4.out.2
  have z0 := frz2 HZ4.out.2 0
  have z1 := frz2 HZ4.out.2 1
  have z2 := frz2 HZ4.out.2 2
  have HH := Lib.hid (zr_set HZ4.out (.int .i64 0) (.slice none 0 0) (.string ⟨#[]⟩)).1
  have HHB := Lib.hid (zr_set HZ4.out (.int .i64 0) (.slice none 0 0) (.string ⟨#[]⟩)).2
  go_wp2
  obtain ⟨d0, d1, d2⟩ := cells3 HH.out
  clear c0 c1 c2 z0 z1 z2
  (with_reducible refine bodyPost_ret (v := .tuple #[.agg #[.int .i64 0, .slice none 0 0, .string ⟨#[]⟩], .int .i64 0, .int .i64 11]) (by simp [results, Tryd.results14, go_sem, d0, d1, d2]) rfl ⟨rfl, HHB.out⟩)
set_option maxRecDepth 100000 in
set_option maxHeartbeats 4000000 in
theorem pa_c (s top bh : ByteArray) (w : World) (HM : Hid (Mx w))
    (HC : Hid (∀ W, Mx W → Calls Tryd.prog 31 #[.string s, .string ⟨#[13, 10, 13, 10]⟩] W fun e w' => e = .returned (.tuple #[.string top, .string bh, .bool true]) ∧ ∃ n, w' = W.drewN n))
    (lst : ByteArray) (k : Nat) (ps : List ByteArray) (hk : k ≤ 1000000) (hbh : bh.size ≤ 10000000) (HLA : Hid (∀ g W, LnS g 0 ps W → W.cell? ⟨g, k, none⟩ = some (.string lst)))
    (HSP : Hid (∀ W, Mx W → Calls Tryd.prog 32 #[.string top, .string ⟨#[13, 10]⟩] W fun e w' => e = .returned (.slice (some ⟨W.heap.size, 0, none⟩) (k + 1) (k + 1)) ∧ LnS W.heap.size 0 ps w' ∧ Below W.heap.size W w'))
    (m : Nat) (HLE : Hid (∀ W, Calls Tryd.prog 33 #[.string lst, .int .i64 (bh.size : Int)] W fun e w' => e = .returned (.tuple #[.int .i64 (m : Int), .bool true]) ∧ Below W.heap.size W w'))
    (hmb : m ≤ bh.size) (HOL : Hid (∀ g W, LnS g 0 ps W → w.heap.size < W.heap.size → Calls Tryd.prog 34 #[.slice (some ⟨g, 0, none⟩) (k + 1) (k + 1), .string (bh.extract 0 m)] W fun e w' => e = .returned (.tuple #[.agg #[.int .i64 0, .slice none 0 0, .string ⟨#[]⟩], .bool false]) ∧ Below W.heap.size W w')) :
    Calls Tryd.prog 14 #[.string s] w fun e w' => e = .returned (.tuple #[.agg #[.int .i64 0, .slice none 0 0, .string ⟨#[]⟩], .int .i64 0, .int .i64 3]) ∧ Below w.heap.size w w' := by
  have HZ := Lib.hid (Zr.new w)
  have HM1 : Hid (Mx (w.alloc (.cells #[.int .i64 0, .slice none 0 0, .string ⟨#[]⟩] 31))) := HM.out.go ((Below.refl _ _).alloc (Nat.le_refl _) _)
  go_enter Tryd.func14, Tryd.ntmps14
  go_wp2_with fail
  refine (HC.out _ HM1.out).mono ?_
  rintro e w2 ⟨rfl, nd, hw⟩
  have HZ2 : Hid (Zr w w2) := by show Zr w w2; rw [hw]; exact HZ.out.go (bel_drewN _ _)
  clear hw HZ
  have HM2 : Hid (Mx w2) := HM.out.go HZ2.out.1
  go_wp2_with fail
  refine (HSP.out _ HM2.out).mono ?_
  rintro e w3 ⟨rfl, hl3, hb3⟩
  have HL3 := Lib.hid hl3
  have HZ3 := Lib.hid (HZ2.out.go hb3)
  have p0 := HLA.out _ _ hl3
  clear hl3 hb3
  generalize w2.heap.size = g at HL3 p0 ⊢
  go_wp2_with fail
  refine (HLE.out _).mono ?_
  rintro e w4 ⟨rfl, hb4⟩
  have HZ4 := Lib.hid (HZ3.out.go hb4)
  have HL4 := Lib.hid (HL3.out.go hb4)
  clear hb4 p0
  have hm0 : (0 : Int) ≤ (m : Int) := by omega
  have hm1 : (m : Int) ≤ (bh.size : Int) := by omega
  go_wp2_with fail
  refine (HOL.out _ _ HL4.out HZ4.out.lt).mono ?_
  rintro e w5 ⟨rfl, hb5⟩
  have HZ5 := Lib.hid (HZ4.out.go hb5)
  have hlx : w.heap.size < w5.heap.size := HZ5.out.lt
  have hnx : w.heap.size ≠ w5.heap.size := by omega
  clear hb5
  obtain ⟨c0, c1, c2⟩ := cells3 HZ5.out.2
  have z0 := frz2 HZ5.out.2 0
  have z1 := frz2 HZ5.out.2 1
  have z2 := frz2 HZ5.out.2 2
  have HH := Lib.hid (heap_old (.cells #[.int .i64 0, .slice none 0 0, .string ⟨#[]⟩] 31) (zr_set HZ5.out (.int .i64 0) (.slice none 0 0) (.string ⟨#[]⟩)).1)
  have HHB := Lib.hid ((zr_set HZ5.out (.int .i64 0) (.slice none 0 0) (.string ⟨#[]⟩)).2.alloc (by simp [World.setCell]; omega) (.cells #[.int .i64 0, .slice none 0 0, .string ⟨#[]⟩] 31))
  go_wp2
  obtain ⟨d0, d1, d2⟩ := cells3 HH.out
  clear c0 c1 c2 z0 z1 z2
  (with_reducible refine bodyPost_ret (v := .tuple #[.agg #[.int .i64 0, .slice none 0 0, .string ⟨#[]⟩], .int .i64 0, .int .i64 3]) (by simp [results, Tryd.results14, go_sem, d0, d1, d2]) rfl ⟨rfl, HHB.out⟩)
set_option maxRecDepth 100000 in
set_option maxHeartbeats 4000000 in
theorem pa_d (s top bh : ByteArray) (w : World) (HM : Hid (Mx w))
    (HC : Hid (∀ W, Mx W → Calls Tryd.prog 31 #[.string s, .string ⟨#[13, 10, 13, 10]⟩] W fun e w' => e = .returned (.tuple #[.string top, .string bh, .bool true]) ∧ ∃ n, w' = W.drewN n))
    (lst : ByteArray) (k : Nat) (ps : List ByteArray) (hk : k ≤ 1000000) (hbh : bh.size ≤ 10000000) (HLA : Hid (∀ g W, LnS g 0 ps W → W.cell? ⟨g, k, none⟩ = some (.string lst)))
    (HSP : Hid (∀ W, Mx W → Calls Tryd.prog 32 #[.string top, .string ⟨#[13, 10]⟩] W fun e w' => e = .returned (.slice (some ⟨W.heap.size, 0, none⟩) (k + 1) (k + 1)) ∧ LnS W.heap.size 0 ps w' ∧ Below W.heap.size W w'))
    (m : Nat) (HLE : Hid (∀ W, Calls Tryd.prog 33 #[.string lst, .int .i64 (bh.size : Int)] W fun e w' => e = .returned (.tuple #[.int .i64 (m : Int), .bool true]) ∧ Below W.heap.size W w'))
    (n : Int) (fl : Nat) (bd : ByteArray) (OW : Value → World → Prop) (HOW : Hid (∀ v W W', OW v W → Below W.heap.size W W' → OW v W'))
    (hmb : m ≤ bh.size) (HOL : Hid (∀ g W, LnS g 0 ps W → w.heap.size < W.heap.size → Calls Tryd.prog 34 #[.slice (some ⟨g, 0, none⟩) (k + 1) (k + 1), .string (bh.extract 0 m)] W fun e w' => ∃ aq cq, e = .returned (.tuple #[.agg #[.int .i64 n, .slice aq fl cq, .string bd], .bool true]) ∧ OW (.slice aq fl cq) w' ∧ Below W.heap.size W w'))
    (HEN : Hid (∀ aq cq W, OW (.slice aq fl cq) W → Below w.heap.size w W → Calls Tryd.prog 9 #[.agg #[.int .i64 n, .slice aq fl cq, .string bd]] W fun e w' => e = .returned (.tuple #[.string ⟨#[]⟩, .int .i64 3]) ∧ Below W.heap.size W w')) :
    Calls Tryd.prog 14 #[.string s] w fun e w' => e = .returned (.tuple #[.agg #[.int .i64 0, .slice none 0 0, .string ⟨#[]⟩], .int .i64 0, .int .i64 3]) ∧ Below w.heap.size w w' := by
  have HZ := Lib.hid (Zr.new w)
  have HM1 : Hid (Mx (w.alloc (.cells #[.int .i64 0, .slice none 0 0, .string ⟨#[]⟩] 31))) := HM.out.go ((Below.refl _ _).alloc (Nat.le_refl _) _)
  go_enter Tryd.func14, Tryd.ntmps14
  go_wp2_with fail
  refine (HC.out _ HM1.out).mono ?_
  rintro e w2 ⟨rfl, nd, hw⟩
  have HZ2 : Hid (Zr w w2) := by show Zr w w2; rw [hw]; exact HZ.out.go (bel_drewN _ _)
  clear hw HZ
  have HM2 : Hid (Mx w2) := HM.out.go HZ2.out.1
  go_wp2_with fail
  refine (HSP.out _ HM2.out).mono ?_
  rintro e w3 ⟨rfl, hl3, hb3⟩
  have HL3 := Lib.hid hl3
  have HZ3 := Lib.hid (HZ2.out.go hb3)
  have p0 := HLA.out _ _ hl3
  clear hl3 hb3
  generalize w2.heap.size = g at HL3 p0 ⊢
  go_wp2_with fail
  refine (HLE.out _).mono ?_
  rintro e w4 ⟨rfl, hb4⟩
  have HZ4 := Lib.hid (HZ3.out.go hb4)
  have HL4 := Lib.hid (HL3.out.go hb4)
  clear hb4 p0
  have hm0 : (0 : Int) ≤ (m : Int) := by omega
  have hm1 : (m : Int) ≤ (bh.size : Int) := by omega
  go_wp2_with fail
  refine (HOL.out _ _ HL4.out HZ4.out.lt).mono ?_
  rintro e w5 ⟨aq, cq, rfl, ho5, hb5⟩
  have HZ5 := Lib.hid ((HZ4.out.go hb5).go ((Below.refl _ _).alloc (Nat.le_refl _) (.cells #[.int .i64 n, .slice aq fl cq, .string bd] 31)))
  have HO5 := Lib.hid (HOW.out _ _ _ ho5 ((Below.refl _ _).alloc (Nat.le_refl _) (.cells #[.int .i64 n, .slice aq fl cq, .string bd] 31)))
  have HK5 := Lib.hid (heap_alloc_new w5 (.cells #[.int .i64 n, .slice aq fl cq, .string bd] 31))
  have HLX : Hid (w.heap.size < w5.heap.size) := (HZ4.out.go hb5).lt
  clear ho5 hb5
  go_wp2_with fail
  refine (HEN.out _ _ _ HO5.out HZ5.out.1).mono ?_
  rintro e w6 ⟨rfl, hb6⟩
  have HZ6 := Lib.hid (HZ5.out.go hb6)
  have HO6 := Lib.hid (HOW.out _ _ _ HO5.out hb6)
  have HK6 : Hid (w6.heap[w5.heap.size]? = some (.cells #[.int .i64 n, .slice aq fl cq, .string bd] 31 (0, 0))) := (hb6.block _ (by simp)).trans HK5.out
  clear hb6
  obtain ⟨c0, c1, c2⟩ := cells3 HZ6.out.2
  have z0 := frz2 HZ6.out.2 0
  have z1 := frz2 HZ6.out.2 1
  have z2 := frz2 HZ6.out.2 2
  have HH := Lib.hid (zr_set HZ6.out (.int .i64 0) (.slice none 0 0) (.string ⟨#[]⟩)).1
  have HHB := Lib.hid (zr_set HZ6.out (.int .i64 0) (.slice none 0 0) (.string ⟨#[]⟩)).2
  go_wp2
  obtain ⟨d0, d1, d2⟩ := cells3 HH.out
  clear c0 c1 c2 z0 z1 z2
  (with_reducible refine bodyPost_ret (v := .tuple #[.agg #[.int .i64 0, .slice none 0 0, .string ⟨#[]⟩], .int .i64 0, .int .i64 3]) (by simp [results, Tryd.results14, go_sem, d0, d1, d2]) rfl ⟨rfl, HHB.out⟩)
set_option maxRecDepth 100000 in
set_option maxHeartbeats 4000000 in
theorem pa_e (s top bh : ByteArray) (w : World) (HM : Hid (Mx w))
    (HC : Hid (∀ W, Mx W → Calls Tryd.prog 31 #[.string s, .string ⟨#[13, 10, 13, 10]⟩] W fun e w' => e = .returned (.tuple #[.string top, .string bh, .bool true]) ∧ ∃ n, w' = W.drewN n))
    (lst : ByteArray) (k : Nat) (ps : List ByteArray) (hk : k ≤ 1000000) (hbh : bh.size ≤ 10000000) (HLA : Hid (∀ g W, LnS g 0 ps W → W.cell? ⟨g, k, none⟩ = some (.string lst)))
    (HSP : Hid (∀ W, Mx W → Calls Tryd.prog 32 #[.string top, .string ⟨#[13, 10]⟩] W fun e w' => e = .returned (.slice (some ⟨W.heap.size, 0, none⟩) (k + 1) (k + 1)) ∧ LnS W.heap.size 0 ps w' ∧ Below W.heap.size W w'))
    (m : Nat) (HLE : Hid (∀ W, Calls Tryd.prog 33 #[.string lst, .int .i64 (bh.size : Int)] W fun e w' => e = .returned (.tuple #[.int .i64 (m : Int), .bool true]) ∧ Below W.heap.size W w'))
    (n : Int) (fl : Nat) (bd : ByteArray) (OW : Value → World → Prop) (HOW : Hid (∀ v W W', OW v W → Below W.heap.size W W' → OW v W'))
    (hmb : m ≤ bh.size) (HOL : Hid (∀ g W, LnS g 0 ps W → w.heap.size < W.heap.size → Calls Tryd.prog 34 #[.slice (some ⟨g, 0, none⟩) (k + 1) (k + 1), .string (bh.extract 0 m)] W fun e w' => ∃ aq cq, e = .returned (.tuple #[.agg #[.int .i64 n, .slice aq fl cq, .string bd], .bool true]) ∧ OW (.slice aq fl cq) w' ∧ Below W.heap.size W w'))
    (E : ByteArray) (HPX : Hid (∀ W, Calls Tryd.prog 35 #[.string s, .string E] W fun e w' => e = .returned (.bool false) ∧ w' = W))
    (HEN : Hid (∀ aq cq W, OW (.slice aq fl cq) W → Below w.heap.size w W → Calls Tryd.prog 9 #[.agg #[.int .i64 n, .slice aq fl cq, .string bd]] W fun e w' => e = .returned (.tuple #[.string E, .int .i64 0]) ∧ Below W.heap.size W w')) :
    Calls Tryd.prog 14 #[.string s] w fun e w' => e = .returned (.tuple #[.agg #[.int .i64 0, .slice none 0 0, .string ⟨#[]⟩], .int .i64 0, .int .i64 3]) ∧ Below w.heap.size w w' := by
  have HZ := Lib.hid (Zr.new w)
  have HM1 : Hid (Mx (w.alloc (.cells #[.int .i64 0, .slice none 0 0, .string ⟨#[]⟩] 31))) := HM.out.go ((Below.refl _ _).alloc (Nat.le_refl _) _)
  go_enter Tryd.func14, Tryd.ntmps14
  go_wp2_with fail
  refine (HC.out _ HM1.out).mono ?_
  rintro e w2 ⟨rfl, nd, hw⟩
  have HZ2 : Hid (Zr w w2) := by show Zr w w2; rw [hw]; exact HZ.out.go (bel_drewN _ _)
  clear hw HZ
  have HM2 : Hid (Mx w2) := HM.out.go HZ2.out.1
  go_wp2_with fail
  refine (HSP.out _ HM2.out).mono ?_
  rintro e w3 ⟨rfl, hl3, hb3⟩
  have HL3 := Lib.hid hl3
  have HZ3 := Lib.hid (HZ2.out.go hb3)
  have p0 := HLA.out _ _ hl3
  clear hl3 hb3
  generalize w2.heap.size = g at HL3 p0 ⊢
  go_wp2_with fail
  refine (HLE.out _).mono ?_
  rintro e w4 ⟨rfl, hb4⟩
  have HZ4 := Lib.hid (HZ3.out.go hb4)
  have HL4 := Lib.hid (HL3.out.go hb4)
  clear hb4 p0
  have hm0 : (0 : Int) ≤ (m : Int) := by omega
  have hm1 : (m : Int) ≤ (bh.size : Int) := by omega
  go_wp2_with fail
  refine (HOL.out _ _ HL4.out HZ4.out.lt).mono ?_
  rintro e w5 ⟨aq, cq, rfl, ho5, hb5⟩
  have HZ5 := Lib.hid ((HZ4.out.go hb5).go ((Below.refl _ _).alloc (Nat.le_refl _) (.cells #[.int .i64 n, .slice aq fl cq, .string bd] 31)))
  have HO5 := Lib.hid (HOW.out _ _ _ ho5 ((Below.refl _ _).alloc (Nat.le_refl _) (.cells #[.int .i64 n, .slice aq fl cq, .string bd] 31)))
  have HK5 := Lib.hid (heap_alloc_new w5 (.cells #[.int .i64 n, .slice aq fl cq, .string bd] 31))
  have HLX : Hid (w.heap.size < w5.heap.size) := (HZ4.out.go hb5).lt
  clear ho5 hb5
  go_wp2_with fail
  refine (HEN.out _ _ _ HO5.out HZ5.out.1).mono ?_
  rintro e w6 ⟨rfl, hb6⟩
  have HZ6 := Lib.hid (HZ5.out.go hb6)
  have HO6 := Lib.hid (HOW.out _ _ _ HO5.out hb6)
  have HK6 : Hid (w6.heap[w5.heap.size]? = some (.cells #[.int .i64 n, .slice aq fl cq, .string bd] 31 (0, 0))) := (hb6.block _ (by simp)).trans HK5.out
  clear hb6
  go_wp2_with fail
  refine (HPX.out _).mono ?_
  rintro e w7 ⟨rfl, hw⟩
  rw [hw]; clear hw
  obtain ⟨c0, c1, c2⟩ := cells3 HZ6.out.2
  have z0 := frz2 HZ6.out.2 0
  have z1 := frz2 HZ6.out.2 1
  have z2 := frz2 HZ6.out.2 2
  have HH := Lib.hid (zr_set HZ6.out (.int .i64 0) (.slice none 0 0) (.string ⟨#[]⟩)).1
  have HHB := Lib.hid (zr_set HZ6.out (.int .i64 0) (.slice none 0 0) (.string ⟨#[]⟩)).2
  go_wp2
  obtain ⟨d0, d1, d2⟩ := cells3 HH.out
  clear c0 c1 c2 z0 z1 z2
  (with_reducible refine bodyPost_ret (v := .tuple #[.agg #[.int .i64 0, .slice none 0 0, .string ⟨#[]⟩], .int .i64 0, .int .i64 3]) (by simp [results, Tryd.results14, go_sem, d0, d1, d2]) rfl ⟨rfl, HHB.out⟩)
set_option maxRecDepth 100000 in
set_option maxHeartbeats 4000000 in
theorem pa_f (s top bh : ByteArray) (w : World) (HM : Hid (Mx w))
    (HC : Hid (∀ W, Mx W → Calls Tryd.prog 31 #[.string s, .string ⟨#[13, 10, 13, 10]⟩] W fun e w' => e = .returned (.tuple #[.string top, .string bh, .bool true]) ∧ ∃ n, w' = W.drewN n))
    (lst : ByteArray) (k : Nat) (ps : List ByteArray) (hk : k ≤ 1000000) (hbh : bh.size ≤ 10000000) (HLA : Hid (∀ g W, LnS g 0 ps W → W.cell? ⟨g, k, none⟩ = some (.string lst)))
    (HSP : Hid (∀ W, Mx W → Calls Tryd.prog 32 #[.string top, .string ⟨#[13, 10]⟩] W fun e w' => e = .returned (.slice (some ⟨W.heap.size, 0, none⟩) (k + 1) (k + 1)) ∧ LnS W.heap.size 0 ps w' ∧ Below W.heap.size W w'))
    (m : Nat) (HLE : Hid (∀ W, Calls Tryd.prog 33 #[.string lst, .int .i64 (bh.size : Int)] W fun e w' => e = .returned (.tuple #[.int .i64 (m : Int), .bool true]) ∧ Below W.heap.size W w'))
    (n : Int) (fl : Nat) (bd : ByteArray) (OW : Value → World → Prop) (HOW : Hid (∀ v W W', OW v W → Below W.heap.size W W' → OW v W')) (HOG : Hid (∀ v W W', OW v W → W.grownBy W' (some w.heap.size) → OW v W'))
    (hmb : m ≤ bh.size) (HOL : Hid (∀ g W, LnS g 0 ps W → w.heap.size < W.heap.size → Calls Tryd.prog 34 #[.slice (some ⟨g, 0, none⟩) (k + 1) (k + 1), .string (bh.extract 0 m)] W fun e w' => ∃ aq cq, e = .returned (.tuple #[.agg #[.int .i64 n, .slice aq fl cq, .string bd], .bool true]) ∧ OW (.slice aq fl cq) w' ∧ Below W.heap.size W w'))
    (E : ByteArray) (HPX : Hid (∀ W, Calls Tryd.prog 35 #[.string s, .string E] W fun e w' => e = .returned (.bool true) ∧ w' = W))
    (HEN : Hid (∀ aq cq W, OW (.slice aq fl cq) W → Below w.heap.size w W → Calls Tryd.prog 9 #[.agg #[.int .i64 n, .slice aq fl cq, .string bd]] W fun e w' => e = .returned (.tuple #[.string E, .int .i64 0]) ∧ Below W.heap.size W w')) :
    Calls Tryd.prog 14 #[.string s] w fun e w' => ∃ aq cq, e = .returned (.tuple #[.agg #[.int .i64 n, .slice aq fl cq, .string bd], .int .i64 (E.size : Int), .int .i64 0]) ∧ OW (.slice aq fl cq) w' ∧ Below w.heap.size w w' := by
  have HZ := Lib.hid (Zr.new w)
  have HM1 : Hid (Mx (w.alloc (.cells #[.int .i64 0, .slice none 0 0, .string ⟨#[]⟩] 31))) := HM.out.go ((Below.refl _ _).alloc (Nat.le_refl _) _)
  go_enter Tryd.func14, Tryd.ntmps14
  go_wp2_with fail
  refine (HC.out _ HM1.out).mono ?_
  rintro e w2 ⟨rfl, nd, hw⟩
  have HZ2 : Hid (Zr w w2) := by show Zr w w2; rw [hw]; exact HZ.out.go (bel_drewN _ _)
  clear hw HZ
  have HM2 : Hid (Mx w2) := HM.out.go HZ2.out.1
  go_wp2_with fail
  refine (HSP.out _ HM2.out).mono ?_
  rintro e w3 ⟨rfl, hl3, hb3⟩
  have HL3 := Lib.hid hl3
  have HZ3 := Lib.hid (HZ2.out.go hb3)
  have p0 := HLA.out _ _ hl3
  clear hl3 hb3
  generalize w2.heap.size = g at HL3 p0 ⊢
  go_wp2_with fail
  refine (HLE.out _).mono ?_
  rintro e w4 ⟨rfl, hb4⟩
  have HZ4 := Lib.hid (HZ3.out.go hb4)
  have HL4 := Lib.hid (HL3.out.go hb4)
  clear hb4 p0
  have hm0 : (0 : Int) ≤ (m : Int) := by omega
  have hm1 : (m : Int) ≤ (bh.size : Int) := by omega
  go_wp2_with fail
  refine (HOL.out _ _ HL4.out HZ4.out.lt).mono ?_
  rintro e w5 ⟨aq, cq, rfl, ho5, hb5⟩
  have HZ5 := Lib.hid ((HZ4.out.go hb5).go ((Below.refl _ _).alloc (Nat.le_refl _) (.cells #[.int .i64 n, .slice aq fl cq, .string bd] 31)))
  have HO5 := Lib.hid (HOW.out _ _ _ ho5 ((Below.refl _ _).alloc (Nat.le_refl _) (.cells #[.int .i64 n, .slice aq fl cq, .string bd] 31)))
  have HK5 := Lib.hid (heap_alloc_new w5 (.cells #[.int .i64 n, .slice aq fl cq, .string bd] 31))
  have HLX : Hid (w.heap.size < w5.heap.size) := (HZ4.out.go hb5).lt
  clear ho5 hb5
  go_wp2_with fail
  refine (HEN.out _ _ _ HO5.out HZ5.out.1).mono ?_
  rintro e w6 ⟨rfl, hb6⟩
  have HZ6 := Lib.hid (HZ5.out.go hb6)
  have HO6 := Lib.hid (HOW.out _ _ _ HO5.out hb6)
  have HK6 : Hid (w6.heap[w5.heap.size]? = some (.cells #[.int .i64 n, .slice aq fl cq, .string bd] 31 (0, 0))) := (hb6.block _ (by simp)).trans HK5.out
  clear hb6
  go_wp2_with fail
  refine (HPX.out _).mono ?_
  rintro e w7 ⟨rfl, hw⟩
  rw [hw]; clear hw
  obtain ⟨c0, c1, c2⟩ := cells3 HZ6.out.2
  obtain ⟨k0, k1, k2⟩ := cells3 HK6.out
  have z0 := frz2 HZ6.out.2 0
  have z1 := frz2 HZ6.out.2 1
  have z2 := frz2 HZ6.out.2 2
  have HH := Lib.hid (zr_set HZ6.out (.int .i64 n) (.slice aq fl cq) (.string bd)).1
  have HHB := Lib.hid (zr_set HZ6.out (.int .i64 n) (.slice aq fl cq) (.string bd)).2
  have HOF : Hid (OW (.slice aq fl cq) (((w6.setCell ⟨w.heap.size, 0, none⟩ (.int .i64 n)).setCell ⟨w.heap.size, 1, none⟩ (.slice aq fl cq)).setCell ⟨w.heap.size, 2, none⟩ (.string bd))) := HOG.out _ _ _ HO6.out (gb_trans (gb_trans (gb_set w6 (w.heap.size) 0 (.int .i64 n)) (gb_set _ (w.heap.size) 1 (.slice aq fl cq))) (gb_set _ (w.heap.size) 2 (.string bd)))
  go_wp2
  obtain ⟨d0, d1, d2⟩ := cells3 HH.out
  clear c0 c1 c2 z0 z1 z2 k0 k1 k2
  (with_reducible refine bodyPost_ret (v := .tuple #[.agg #[.int .i64 n, .slice aq fl cq, .string bd], .int .i64 (E.size : Int), .int .i64 0]) (by simp [results, Tryd.results14, go_sem, d0, d1, d2]) rfl ⟨aq, cq, rfl, HOF.out, HHB.out⟩)
end Go.Proofs.YtolfenachbbjdaaDoor.Rp
