/- The contract of the document's own Read of a cursor: for every text of at most nine hundred bytes. -/
import Derived.Test.YtbafjilhopgjmaaDoorPgD
namespace Go.Proofs.YtbafjilhopgjmaaDoor.Pg
open Go.RowKit Ch
set_option linter.unusedSimpArgs false
set_option linter.unusedVariables false

theorem rdW_no {q : Option (Int × Int)} (h : q = none) : rdW q = .returned (.tuple #[.int .i64 0, .int .i64 0, .bool false]) := by subst h; rfl
set_option maxRecDepth 100000 in
set_option maxHeartbeats 4000000 in
/-- not two parts -/
theorem readR_n (s : ByteArray) (ps : List (List UInt8)) (w : World) (q : Option (Int × Int)) (hp0 : 0 < ps.length) (hp : ps.length ≤ 2000) (h2 : ps.length ≠ 2)
    (HC : Hid (∀ W, Calls Tryd.prog 19 #[.string s, .int .u8 46] W (Owned W.heap.size ps W))) (hq : Hid (q = none)) :
    Calls Tryd.prog 9 #[.string s] w fun e w' => e = rdW q ∧ Below w.heap.size w w' := by
  have h2i : ((ps.length : Int) == 2) = false := by simp; omega
  have h2j : ¬ ((ps.length : Int) = 2) := by omega
  go_enter Tryd.func9, Tryd.ntmps9
  go_wp2_with fail
  (with_reducible refine (HC.out _).mono ?_)
  rintro e w1 ⟨v, rfl, hO, hb⟩
  obtain ⟨g, cap, rfl⟩ := Joins.ownsRow_form hO hp0
  have HB := Lib.hid hb
  clear hO hb
  go_wp2
  go_ret3
  exact ⟨(rdW_no hq.out).symm, HB.out⟩
set_option maxRecDepth 100000 in
set_option maxHeartbeats 4000000 in
/-- two parts, the first one empty, or with another byte ahead -/
theorem readR_e (s x y : ByteArray) (w : World) (q : Option (Int × Int)) (hx : x.toList.isEmpty = true ∨ (x.toList.isEmpty = false ∧ ∃ h : 0 < x.size, ((x[0].toNat : Int) == 112) = false))
    (HC : Hid (∀ W, Calls Tryd.prog 19 #[.string s, .int .u8 46] W (Owned W.heap.size [x.data.toList, y.data.toList] W))) (hq : Hid (q = none)) :
    Calls Tryd.prog 9 #[.string s] w fun e w' => e = rdW q ∧ Below w.heap.size w w' := by
  rcases hx with hx | ⟨hx, h0, hc⟩
  · go_enter Tryd.func9, Tryd.ntmps9
    go_wp2_with fail
    (with_reducible refine (HC.out _).mono ?_)
    rintro e w1 ⟨v, rfl, hO, hb⟩
    obtain ⟨g, cap, rfl⟩ := Joins.ownsRow_form hO (by simp)
    have c0 := cell_of_owned hO 0 (by simp)
    have e0 : mkS ([x.data.toList, y.data.toList][0]) = x := (mkS_of rfl).symm
    rw [e0] at c0
    have HB := Lib.hid hb
    clear hO hb e0
    have hl : [x.data.toList, y.data.toList].length = 2 := rfl
    rw [hl]
    go_wp2
    go_ret3
    exact ⟨(rdW_no hq.out).symm, HB.out⟩
  · go_enter Tryd.func9, Tryd.ntmps9
    go_wp2_with fail
    (with_reducible refine (HC.out _).mono ?_)
    rintro e w1 ⟨v, rfl, hO, hb⟩
    obtain ⟨g, cap, rfl⟩ := Joins.ownsRow_form hO (by simp)
    have c0 := cell_of_owned hO 0 (by simp)
    have e0 : mkS ([x.data.toList, y.data.toList][0]) = x := (mkS_of rfl).symm
    rw [e0] at c0
    have HB := Lib.hid hb
    clear hO hb e0
    have hl : [x.data.toList, y.data.toList].length = 2 := rfl
    rw [hl]
    have hz : (0 : Int) < (x.size : Int) := by omega
    go_wp2
    go_ret3
    exact ⟨(rdW_no hq.out).symm, HB.out⟩
set_option maxRecDepth 100000 in
set_option maxHeartbeats 4000000 in
/-- two parts, the first one with its byte ahead -/
theorem readR_t (s x y : ByteArray) (a b e1 e2 : Int) (w : World) (q : Option (Int × Int)) (hx : x.toList.isEmpty = false) (h0 : 0 < x.size) (hc : ((x[0].toNat : Int) == 112) = true)
    (HC : Hid (∀ W, Calls Tryd.prog 19 #[.string s, .int .u8 46] W (Owned W.heap.size [x.data.toList, y.data.toList] W)))
    (HA : Hid (∀ W, Calls Tryd.prog 20 #[.string (x.extract 1 x.size)] W fun e w' => e = .returned (.tuple #[.int .i64 a, .int .i64 e1]) ∧ W = w'))
    (HB : Hid (∀ W, Calls Tryd.prog 20 #[.string y] W fun e w' => e = .returned (.tuple #[.int .i64 b, .int .i64 e2]) ∧ W = w'))
    (HP : Hid (∀ W, Calls Tryd.prog 8 #[.int .i64 a, .int .i64 b] W fun e w' => e = .returned (.string (mkS (prC a b))) ∧ Below W.heap.size W w'))
    (hq : Hid (q = if e1 = 0 ∧ e2 = 0 ∧ prC a b = s.data.toList then some (a, b) else none)) :
    Calls Tryd.prog 9 #[.string s] w fun e w' => e = rdW q ∧ Below w.heap.size w w' := by
  have hz : (1 : Int) ≤ (x.size : Int) := by omega
  have hz0 : (0 : Int) < (x.size : Int) := by omega
  by_cases h1 : e1 = 0
  · by_cases h2 : e2 = 0
    · have hne : Hid (((mkS (prC a b)).toList == s.toList) = decide (prC a b = s.data.toList)) := by
        show _ = _
        rw [Lib.toList_data, Lib.toList_data, data_mkS]
        by_cases h : prC a b = s.data.toList
        · rw [h]; simp
        · rw [decide_eq_false h]; simpa using h
      subst h1; subst h2
      by_cases hs : prC a b = s.data.toList
      · rw [decide_eq_true hs] at hne
        have HR : Hid (rdW q = .returned (.tuple #[.int .i64 a, .int .i64 b, .bool true])) := by show _ = _; rw [hq.out, if_pos ⟨rfl, rfl, hs⟩]; rfl
        have hne := hne.out
        clear hq hs
        revert HP hne
        generalize mkS (prC a b) = st
        intro HP hne
        go_enter Tryd.func9, Tryd.ntmps9
        go_wp2_with fail
        (with_reducible refine (HC.out _).mono ?_)
        rintro e w1 ⟨v, rfl, hO, hb⟩
        obtain ⟨g, cap, rfl⟩ := Joins.ownsRow_form hO (by simp)
        have c0 := cell_of_owned hO 0 (by simp)
        have c1 := cell_of_owned hO 1 (by simp)
        have e0 : mkS ([x.data.toList, y.data.toList][0]) = x := (mkS_of rfl).symm
        have e1 : mkS ([x.data.toList, y.data.toList][1]) = y := (mkS_of rfl).symm
        rw [e0] at c0
        rw [e1] at c1
        have HB1 := Lib.hid hb
        clear hO hb e0 e1
        have hl : [x.data.toList, y.data.toList].length = 2 := rfl
        rw [hl]
        go_wp2_with fail
        (with_reducible refine (HA.out _).mono ?_)
        rintro e w2 ⟨rfl, hw⟩
        rw [← hw]; clear hw
        go_wp2_with fail
        (with_reducible refine (HB.out _).mono ?_)
        rintro e w2 ⟨rfl, hw⟩
        rw [← hw]; clear hw
        go_wp2_with (go_at_call 8; (with_reducible refine (HP.out _).mono ?_); rintro e w3 ⟨rfl, hb3⟩; have HB3 : Hid (Below w.heap.size w w3) := HB1.out.trans (hb3.mono HB1.out.size); clear hb3)
        go_ret3
        exact ⟨HR.out.symm, HB3.out⟩
      · rw [decide_eq_false hs] at hne
        have HR : Hid (rdW q = .returned (.tuple #[.int .i64 0, .int .i64 0, .bool false])) := by show _ = _; rw [hq.out, if_neg (fun h => hs h.2.2)]; rfl
        have hne := hne.out
        clear hq hs
        revert HP hne
        generalize mkS (prC a b) = st
        intro HP hne
        go_enter Tryd.func9, Tryd.ntmps9
        go_wp2_with fail
        (with_reducible refine (HC.out _).mono ?_)
        rintro e w1 ⟨v, rfl, hO, hb⟩
        obtain ⟨g, cap, rfl⟩ := Joins.ownsRow_form hO (by simp)
        have c0 := cell_of_owned hO 0 (by simp)
        have c1 := cell_of_owned hO 1 (by simp)
        have e0 : mkS ([x.data.toList, y.data.toList][0]) = x := (mkS_of rfl).symm
        have e1 : mkS ([x.data.toList, y.data.toList][1]) = y := (mkS_of rfl).symm
        rw [e0] at c0
        rw [e1] at c1
        have HB1 := Lib.hid hb
        clear hO hb e0 e1
        have hl : [x.data.toList, y.data.toList].length = 2 := rfl
        rw [hl]
        go_wp2_with fail
        (with_reducible refine (HA.out _).mono ?_)
        rintro e w2 ⟨rfl, hw⟩
        rw [← hw]; clear hw
        go_wp2_with fail
        (with_reducible refine (HB.out _).mono ?_)
        rintro e w2 ⟨rfl, hw⟩
        rw [← hw]; clear hw
        go_wp2_with (go_at_call 8; (with_reducible refine (HP.out _).mono ?_); rintro e w3 ⟨rfl, hb3⟩; have HB3 : Hid (Below w.heap.size w w3) := HB1.out.trans (hb3.mono HB1.out.size); clear hb3)
        go_ret3
        exact ⟨HR.out.symm, HB3.out⟩
    · have HR : Hid (rdW q = .returned (.tuple #[.int .i64 0, .int .i64 0, .bool false])) := by show _ = _; rw [hq.out, if_neg (fun h => h2 h.2.1)]; rfl
      have h2i : (e2 == 0) = false := by simpa using h2
      subst h1
      clear hq HP
      go_enter Tryd.func9, Tryd.ntmps9
      go_wp2_with fail
      (with_reducible refine (HC.out _).mono ?_)
      rintro e w1 ⟨v, rfl, hO, hb⟩
      obtain ⟨g, cap, rfl⟩ := Joins.ownsRow_form hO (by simp)
      have c0 := cell_of_owned hO 0 (by simp)
      have c1 := cell_of_owned hO 1 (by simp)
      have e0 : mkS ([x.data.toList, y.data.toList][0]) = x := (mkS_of rfl).symm
      have e1 : mkS ([x.data.toList, y.data.toList][1]) = y := (mkS_of rfl).symm
      rw [e0] at c0
      rw [e1] at c1
      have HB1 := Lib.hid hb
      clear hO hb e0 e1
      have hl : [x.data.toList, y.data.toList].length = 2 := rfl
      rw [hl]
      go_wp2_with fail
      (with_reducible refine (HA.out _).mono ?_)
      rintro e w2 ⟨rfl, hw⟩
      rw [← hw]; clear hw
      go_wp2_with fail
      (with_reducible refine (HB.out _).mono ?_)
      rintro e w2 ⟨rfl, hw⟩
      rw [← hw]; clear hw
      go_wp2
      go_ret3
      exact ⟨HR.out.symm, HB1.out⟩
  · have HR : Hid (rdW q = .returned (.tuple #[.int .i64 0, .int .i64 0, .bool false])) := by show _ = _; rw [hq.out, if_neg (fun h => h1 h.1)]; rfl
    have h1i : (e1 == 0) = false := by simpa using h1
    clear hq HP
    go_enter Tryd.func9, Tryd.ntmps9
    go_wp2_with fail
    (with_reducible refine (HC.out _).mono ?_)
    rintro e w1 ⟨v, rfl, hO, hb⟩
    obtain ⟨g, cap, rfl⟩ := Joins.ownsRow_form hO (by simp)
    have c0 := cell_of_owned hO 0 (by simp)
    have c1 := cell_of_owned hO 1 (by simp)
    have e0 : mkS ([x.data.toList, y.data.toList][0]) = x := (mkS_of rfl).symm
    have e1' : mkS ([x.data.toList, y.data.toList][1]) = y := (mkS_of rfl).symm
    rw [e0] at c0
    rw [e1'] at c1
    have HB1 := Lib.hid hb
    clear hO hb e0 e1'
    have hl : [x.data.toList, y.data.toList].length = 2 := rfl
    rw [hl]
    go_wp2_with fail
    (with_reducible refine (HA.out _).mono ?_)
    rintro e w2 ⟨rfl, hw⟩
    rw [← hw]; clear hw
    go_wp2_with fail
    (with_reducible refine (HB.out _).mono ?_)
    rintro e w2 ⟨rfl, hw⟩
    rw [← hw]; clear hw
    go_wp2
    go_ret3
    exact ⟨HR.out.symm, HB1.out⟩
theorem ReadR_c (s : ByteArray) (w : World) (hs : s.size ≤ 900) : Calls Tryd.prog 9 #[.string s] w fun e w' => e = rdW (rdR s.data.toList) ∧ Below w.heap.size w w' := by
  have HC : Hid (∀ W, Calls Tryd.prog 19 #[.string s, .int .u8 46] W (Owned W.heap.size (cutL 46 s.data.toList) W)) := fun W => cut_r s 46 W (by omega) (by omega) (by omega)
  have hlen := cutL_len 46 s.data.toList
  have hpart := cutL_part 46 s.data.toList
  rw [← Lib.size_eq s] at hlen
  have h0 : 0 < (cutL 46 s.data.toList).length := by unfold cutL; simp
  have hR : Hid (rdR s.data.toList = (match cutL 46 s.data.toList with
    | [x, y] => (match x with
      | [] => none
      | c :: x => if c = 112 ∧ Nu.rdE 10 2147483647 x = 0 ∧ Nu.rdE 10 2147483647 y = 0 ∧ prC (Nu.rdN 10 2147483647 x) (Nu.rdN 10 2147483647 y) = s.data.toList then some (Nu.rdN 10 2147483647 x, Nu.rdN 10 2147483647 y) else none)
    | _ => none)) := rfl
  revert HC hR hpart hlen h0
  generalize rdR s.data.toList = q
  generalize cutL 46 s.data.toList = ps
  intro HC hlen hpart h0 hR
  by_cases h2 : ps.length = 2
  · match ps, h2 with
    | [xl, yl], _ =>
      have hx := hpart xl (by simp)
      have hy := hpart yl (by simp)
      rw [← Lib.size_eq s] at hx hy
      have hR := Lib.hid hR.out
      cases xl with
      | nil => exact readR_e s (mkS []) (mkS yl) w q (.inl (by rw [str_empty]; rfl)) HC hR
      | cons c xl =>
        have hxs : (mkS (c :: xl)).size = xl.length + 1 := by rw [size_mkS]; rfl
        have h0 : 0 < (mkS (c :: xl)).size := by omega
        have hem : (mkS (c :: xl)).toList.isEmpty = false := by rw [str_empty]; rfl
        have hc : ((((mkS (c :: xl))[0]'h0).toNat : Int) == 112) = decide (c = 112) := by
          have e : (mkS (c :: xl))[0]'h0 = c := by rw [← gdat _ 0 h0]; rfl
          rw [e]
          by_cases h : c = 112
          · subst h; rfl
          · rw [decide_eq_false h]
            have : c.toNat ≠ 112 := fun hh => h (UInt8.toNat_inj.1 hh)
            simp; omega
        by_cases h : c = 112
        · subst h
          rw [decide_eq_true rfl] at hc
          have he : (mkS (112 :: xl)).extract 1 (mkS (112 :: xl)).size = mkS xl := mkS_of (by rw [Lib.extract_data, data_mkS, hxs]; simp)
          exact readR_t s (mkS (112 :: xl)) (mkS yl) (Nu.rdN 10 2147483647 xl) (Nu.rdN 10 2147483647 yl) (Nu.rdE 10 2147483647 xl) (Nu.rdE 10 2147483647 yl) w q hem h0 hc HC
            (by rw [he]; exact fun W => Nu.size_r (mkS xl) W (by rw [size_mkS]; simp at hx; omega))
            (fun W => Nu.size_r (mkS yl) W (by rw [size_mkS]; omega))
            (fun W => by
              have b1 := Nu.rdN_bd 10 2147483647 (.inl rfl) (by omega) xl
              have b2 := Nu.rdN_bd 10 2147483647 (.inl rfl) (by omega) yl
              exact PrintR_c _ _ W (by omega) (by omega) (by omega) (by omega))
            (by show q = _; rw [hR.out]; simp)
        · rw [decide_eq_false h] at hc
          exact readR_e s (mkS (c :: xl)) (mkS yl) w q (.inr ⟨hem, h0, hc⟩) HC (by show q = none; rw [hR.out]; simp [h])
  · refine readR_n s ps w q h0 (by omega) h2 HC ?_
    show q = none
    rw [hR.out]
    match ps, h2 with
    | [], _ => rfl
    | [x], _ => rfl
    | [x, y], h => exact absurd rfl h
    | _ :: _ :: _ :: _, _ => rfl
end Go.Proofs.YtbafjilhopgjmaaDoor.Pg
