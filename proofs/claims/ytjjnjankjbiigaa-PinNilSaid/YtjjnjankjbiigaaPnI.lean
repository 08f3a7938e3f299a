/- The document's Keep, Drop, Expire, Least; no other condition. -/
import Derived.Test.YtjjnjankjbiigaaPnH
namespace Go.Proofs.Ytjjnjankjbiigaa.Pn
open Go.RowKit Go.Lib Go.Maps
set_option linter.unusedSimpArgs false
set_option linter.unusedVariables false

def RpQ (B d : Nat) (gd : Option Nat) (m : Int) (l' : List Pin) (v : Value) (w : World) (e : Ending) (w' : World) : Prop := e = .returned v ∧ IsRp B d gd m l' w' ∧ Ch d gd w w'
theorem IsRp.frz {B d g n cap : Nat} {gd : Option Nat} {m : Int} {l : List Pin} {w : World} (h : IsRp B d gd m l w) (hv : w.heap[d]? = some (.cells #[.slice (some ⟨g, 0, none⟩) n cap, .int .i64 m] 38 (0, 0))) : gd = some g ∧ g ≠ d := by
  obtain ⟨v, hv2, ho, e⟩ := h.ex
  rw [hv] at hv2
  injection hv2 with hv2
  injection hv2 with hv2
  have : v = .slice (some ⟨g, 0, none⟩) n cap := by simpa using hv2.symm
  subst this
  have e2 : gd = some g := e.symm
  exact ⟨e2, fun q => h.ne (by rw [e2, q])⟩
/-- a pin's until written -/
theorem IsRp.set1 {B d g cap k : Nat} {gd : Option Nat} {m : Int} {l : List Pin} {w : World} (h : IsRp B d gd m l w) (hv : w.heap[d]? = some (.cells #[.slice (some ⟨g, 0, none⟩) l.length cap, .int .i64 m] 38 (0, 0))) (ho : w.ownsRow B 50 3 (.slice (some ⟨g, 0, none⟩) l.length cap) l.length (pC l)) {x : Pin} (hx : l[k]? = some x) (u : Int) :
    IsRp B d gd m (l.set k (x.1, u, x.2.2)) (w.setCell ⟨g, k * 3 + 1, none⟩ (.int .i64 u)) ∧ Ch d gd w (w.setCell ⟨g, k * 3 + 1, none⟩ (.int .i64 u)) := by
  obtain ⟨rfl, hgd⟩ := h.frz hv
  refine ⟨⟨⟨_, (set_oth _ _ _ _ (Ne.symm hgd)).trans hv, ?_, rfl⟩, h.ne⟩, Ch.set2 _ _ _⟩
  rw [List.length_set, pC_set1 l k x u hx]
  exact row_set ho _
theorem IsRp.set2 {B d g cap k : Nat} {gd : Option Nat} {m : Int} {l : List Pin} {w : World} (h : IsRp B d gd m l w) (hv : w.heap[d]? = some (.cells #[.slice (some ⟨g, 0, none⟩) l.length cap, .int .i64 m] 38 (0, 0))) (ho : w.ownsRow B 50 3 (.slice (some ⟨g, 0, none⟩) l.length cap) l.length (pC l)) {x : Pin} (hx : l[k]? = some x) (u : Bool) :
    IsRp B d gd m (l.set k (x.1, x.2.1, u)) (w.setCell ⟨g, k * 3 + 2, none⟩ (.bool u)) ∧ Ch d gd w (w.setCell ⟨g, k * 3 + 2, none⟩ (.bool u)) := by
  obtain ⟨rfl, hgd⟩ := h.frz hv
  refine ⟨⟨⟨_, (set_oth _ _ _ _ (Ne.symm hgd)).trans hv, ?_, rfl⟩, h.ne⟩, Ch.set2 _ _ _⟩
  rw [List.length_set, pC_set2 l k x u hx]
  exact row_set ho _
theorem keepL_at {l : List Pin} {k : Nat} (hk : k < l.length) (hh : l[k].2.2 = true) (u : Int) : keepL l ((k : Int) + 1) u = l.set k (l[k].1, max l[k].2.1 u, true) := by
  unfold keepL; rw [att_at hk, hh, if_pos rfl, show ((k : Int) + 1 - 1).toNat = k by omega]
theorem dropL_at {l : List Pin} {k : Nat} (hk : k < l.length) (hh : l[k].2.2 = true) : dropL l ((k : Int) + 1) = l.set k (l[k].1, l[k].2.1, false) := by
  unfold dropL; rw [att_at hk, hh, if_pos rfl, show ((k : Int) + 1 - 1).toNat = k by omega]
set_option maxRecDepth 100000 in
set_option maxHeartbeats 2000000 in
theorem Keep_r {B d : Nat} {gd : Option Nat} {m : Int} {l : List Pin} {w : World} (h : IsRp B d gd m l w) (i u : Int) (hm : l.length ≤ 1000000) : Calls Try.prog 21 #[.pointer (some ⟨d, 0, none⟩), .int .i64 i, .int .i64 u] w (RpQ B d gd m (keepL l i u) (.bool (hb l i)) w) := by
  have HH := Lib.hid (Held_r h i hm)
  cases hh : hb l i with
  | false =>
    rw [hh] at HH
    rw [keepL_none hh]
    have H := Lib.hid h
    clear h
    go_enter Try.func21, Try.ntmps21
    go_wp2_with fail
    refine HH.out.mono ?_
    rintro e w1 ⟨rfl, rfl⟩
    go_wp2
    go_ret
    exact ⟨rfl, H.out, Ch.of (Below.refl _ _)⟩
  | true =>
    rw [hh] at HH
    obtain ⟨k, hk, rfl, hx2⟩ := held_ix hh
    rw [keepL_at hk hx2]
    obtain ⟨v, hv, ho, _⟩ := h.ex
    obtain ⟨g, cap, rfl, hg, _, hat, hfz⟩ := own_at ho (by omega)
    obtain ⟨c0, c1⟩ := cells2 hv
    obtain ⟨p0, p1, p2⟩ := cellP hat hk
    have f1 := hfz (k * 3 + 1)
    have hk0 : (0 : Int) ≤ (k : Int) := by omega
    have hkl : (k : Int) < (l.length : Int) := by omega
    by_cases hlt : l[k].2.1 < u
    · have HQ := Lib.hid (h.set1 hv ho (List.getElem?_eq_getElem hk) u)
      rw [hx2] at HQ
      rw [show max l[k].2.1 u = u by omega]
      clear h hv ho hat hfz hh hx2
      revert HQ hlt p0 p1 p2
      generalize l[k] = x
      obtain ⟨x0, x1, x2⟩ := x
      intro p0 p1 p2 hlt HQ
      simp only at p0 p1 p2 hlt HQ ⊢
      go_enter Try.func21, Try.ntmps21
      go_wp2_with fail
      refine HH.out.mono ?_
      rintro e w1 ⟨rfl, rfl⟩
      clear HH
      go_wp2
      go_ret
      exact ⟨rfl, HQ.out.1, HQ.out.2⟩
    · have HQ : Hid (IsRp B d gd m (l.set k (l[k].1, max l[k].2.1 u, true)) w) := by
        rw [show max l[k].2.1 u = l[k].2.1 by omega, ← hx2]
        show IsRp B d gd m (l.set k l[k]) w
        rw [List.set_getElem_self]; exact h
      clear h hv ho hat hfz hh hx2
      revert HQ hlt p0 p1 p2
      generalize l[k] = x
      obtain ⟨x0, x1, x2⟩ := x
      intro p0 p1 p2 hlt HQ
      simp only at p0 p1 p2 hlt HQ ⊢
      go_enter Try.func21, Try.ntmps21
      go_wp2_with fail
      refine HH.out.mono ?_
      rintro e w1 ⟨rfl, rfl⟩
      clear HH
      go_wp2
      go_ret
      exact ⟨rfl, HQ.out, Ch.of (Below.refl _ _)⟩
set_option maxRecDepth 100000 in
set_option maxHeartbeats 2000000 in
theorem Drop_r {B d : Nat} {gd : Option Nat} {m : Int} {l : List Pin} {w : World} (h : IsRp B d gd m l w) (i : Int) (hm : l.length ≤ 1000000) : Calls Try.prog 22 #[.pointer (some ⟨d, 0, none⟩), .int .i64 i] w (RpQ B d gd m (dropL l i) (.bool (hb l i)) w) := by
  have HH := Lib.hid (Held_r h i hm)
  cases hh : hb l i with
  | false =>
    rw [hh] at HH
    rw [dropL_none hh]
    have H := Lib.hid h
    clear h
    go_enter Try.func22, Try.ntmps22
    go_wp2_with fail
    refine HH.out.mono ?_
    rintro e w1 ⟨rfl, rfl⟩
    go_wp2
    go_ret
    exact ⟨rfl, H.out, Ch.of (Below.refl _ _)⟩
  | true =>
    rw [hh] at HH
    obtain ⟨k, hk, rfl, hx2⟩ := held_ix hh
    rw [dropL_at hk hx2]
    obtain ⟨v, hv, ho, _⟩ := h.ex
    obtain ⟨g, cap, rfl, hg, _, hat, hfz⟩ := own_at ho (by omega)
    obtain ⟨c0, c1⟩ := cells2 hv
    obtain ⟨p0, p1, p2⟩ := cellP hat hk
    have f1 := hfz (k * 3 + 2)
    have hk0 : (0 : Int) ≤ (k : Int) := by omega
    have hkl : (k : Int) < (l.length : Int) := by omega
    have HQ := Lib.hid (h.set2 hv ho (List.getElem?_eq_getElem hk) false)
    clear h hv ho hat hfz hh hx2
    revert HQ p0 p1 p2
    generalize l[k] = x
    obtain ⟨x0, x1, x2⟩ := x
    intro p0 p1 p2 HQ
    simp only at p0 p1 p2 HQ ⊢
    go_enter Try.func22, Try.ntmps22
    go_wp2_with fail
    refine HH.out.mono ?_
    rintro e w1 ⟨rfl, rfl⟩
    clear HH
    go_wp2
    go_ret
    exact ⟨rfl, HQ.out.1, HQ.out.2⟩
theorem lst_take {l : List Pin} {j : Nat} (hj : j < l.length) : lst (l.take (j + 1)) = lst1 (lst (l.take j)) l[j] := by
  rw [List.take_succ_eq_append_getElem hj]; unfold lst; rw [List.foldl_append]; rfl
set_option maxRecDepth 100000 in
set_option maxHeartbeats 4000000 in
theorem Least_r {B d : Nat} {gd : Option Nat} {m : Int} {l : List Pin} {w : World} (h : IsRp B d gd m l w) (hm : l.length ≤ 1000000) : Calls Try.prog 14 #[.pointer (some ⟨d, 0, none⟩)] w fun e w' => e = .returned (.tuple #[.int .i64 (lst l).1, .bool (lst l).2]) ∧ Below w.heap.size w w' := by
  obtain ⟨v, hv, ho, _⟩ := h.ex
  obtain ⟨ao, cap, rfl⟩ := own_form ho
  have HO := Lib.hid ho
  obtain ⟨c0, c1⟩ := cells2 hv
  clear h hv ho
  go_enter Try.func14, Try.ntmps14
  go_wp2
  clear c0 c1
  go_loopw [4, 5, 13] (fun vv ov iv wr => ∃ (j : Nat) (z : Int) (ok : Bool), j ≤ l.length ∧ iv = .int .i64 j ∧ vv = .int .i64 z ∧ ov = .bool ok ∧ Hid (lst (l.take j) = (z, ok)) ∧ Hid (Below w.heap.size w wr)) (fun _ _ iv _ => l.length - (intOf iv).toNat)
  case atStart => exact ⟨0, 0, false, by omega, rfl, rfl, rfl, rfl, Below.refl _ _⟩
  case round =>
    obtain ⟨j, z, ok, hj, rfl, rfl, rfl, HL, HB⟩ := hrel
    by_cases hlt : j < l.length
    · obtain ⟨g, cp, e, hg, _, hat, _⟩ := own_at (own_go HO.out HB.out) (by omega)
      injection e with e1 e2 e3
      subst e1 e3
      obtain ⟨p0, p1, p2⟩ := cellP hat hlt
      have hj0 : (0 : Int) ≤ (j : Int) := by omega
      have hjl : (j : Int) < (l.length : Int) := by omega
      have hct := lst_take hlt
      rw [HL.out] at hct
      obtain ⟨⟨x0, x1, x2⟩, hx⟩ : ∃ x : Pin, l[j] = x := ⟨_, rfl⟩
      rw [hx] at p0 p1 p2 hct
      simp only at p0 p1 p2 hct
      obtain ⟨W2, hW2, hk2, hb2⟩ := new3 wr (.int .i64 x0) (.int .i64 x1) (.bool x2) 50
      have HW2 := Lib.hid hW2
      obtain ⟨d0, d1, d2⟩ := cells3 hk2
      have HB2 : Hid (Below w.heap.size w W2) := HB.out.trans (hb2.mono HB.out.size)
      have HCT := Lib.hid hct
      have hgn : g ≠ wr.heap.size := by omega
      clear hat hx hW2 hk2 hb2 HB hct HL
      unfold lst1 at HCT
      cases x2 with
      | true =>
        cases ok with
        | true =>
          by_cases hz : x0 < z
          · rw [if_pos (by simpa using hz)] at HCT
            go_upto_region 5 with (fail)
            rw [← HW2.out]
            go_wp2
            go_roundw
            case rel => exact ⟨j + 1, x0, true, by omega, by go_num, rfl, rfl, HCT, HB2⟩
            case measure => simp [intOf]; omega
          · rw [if_neg (by simpa using hz)] at HCT
            go_upto_region 5 with (fail)
            rw [← HW2.out]
            go_wp2
            go_roundw
            case rel => exact ⟨j + 1, z, true, by omega, by go_num, rfl, rfl, HCT, HB2⟩
            case measure => simp [intOf]; omega
        | false =>
          rw [if_pos (by simp)] at HCT
          go_upto_region 5 with (fail)
          rw [← HW2.out]
          go_wp2
          go_roundw
          case rel => exact ⟨j + 1, x0, true, by omega, by go_num, rfl, rfl, HCT, HB2⟩
          case measure => simp [intOf]; omega
      | false =>
        rw [if_neg (by simp)] at HCT
        go_upto_region 5 with (fail)
        rw [← HW2.out]
        go_wp2
        go_roundw
        case rel => exact ⟨j + 1, z, ok, by omega, by go_num, rfl, rfl, HCT, HB2⟩
        case measure => simp [intOf]; omega
    · have hjl : ¬ (j : Int) < (l.length : Int) := by omega
      have hjj : j = l.length := by omega
      rw [hjj, List.take_of_length_le (Nat.le_refl _)] at HL
      clear hj hlt
      go_wp2
      refine bodyPost_ret (v := .tuple #[.int .i64 z, .bool ok]) (by simp [results, Try.results14, go_sem]) rfl ⟨?_, HB.out⟩
      rw [HL.out]
end Go.Proofs.Ytjjnjankjbiigaa.Pn
