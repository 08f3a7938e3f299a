/- Contracts and plain mathematics of some packages' functions, laid together; conditions as each one says. -/
import Derived.Test.YtkphainopofejaaDoorJvGg
namespace Go.Proofs.YtkphainopofejaaDoor.Jv
open Jt
open Go.RowKit Go.ChangeMaps Go.MapKept Go.WideMaps
set_option linter.unusedSimpArgs false
set_option linter.unusedVariables false

mutual
/-- how long its lists are at most -/
def wid : JV → Nat
  | .mk _ _ _ _ xs ks => max (max xs.length ks.length) (widL xs)
def widL : List JV → Nat
  | [] => 0
  | x :: xs => max (wid x) (widL xs)
end
theorem widL_snoc (xs : List JV) (x : JV) : widL (xs ++ [x]) = max (widL xs) (wid x) := by
  induction xs with
  | nil => simp [widL]
  | cons y ys ih => rw [List.cons_append, widL, ih, widL]; omega
theorem wid_mem : ∀ {xs : List JV} {i : Nat} (hi : i < xs.length), wid xs[i] ≤ widL xs
  | x :: xs, 0, _ => by rw [widL]; simp; omega
  | x :: xs, i + 1, hi => by
    have := wid_mem (xs := xs) (i := i) (by simpa using hi)
    rw [widL]; simp only [List.getElem_cons_succ]; omega
theorem dep_mem : ∀ {xs : List JV} {i : Nat} (hi : i < xs.length), dep xs[i] ≤ depL xs
  | x :: xs, 0, _ => by rw [depL]; simp; omega
  | x :: xs, i + 1, hi => by
    have := dep_mem (xs := xs) (i := i) (by simpa using hi)
    rw [depL]; simp only [List.getElem_cons_succ]; omega
theorem onc_mem : ∀ {xs : List JV} {i : Nat} (hi : i < xs.length), oncL xs → onc xs[i]
  | x :: xs, 0, _, h => by rw [oncL] at h; exact h.1
  | x :: xs, i + 1, hi, h => by rw [oncL] at h; exact onc_mem (xs := xs) (i := i) (by simpa using hi) h.2
/-- what was read is not wider than the text is long -/
theorem read_wid (l : List UInt8) : ∀ (f : Nat),
    (∀ (room : Int) (t : Tok) (r : JV × Nat), t.b ≤ l.length → pv l f room t = .ok r → wid r.1 ≤ l.length) ∧
    (∀ (o : Bool) (room : Int) (ks : List (List UInt8)) (xs : List JV) (t : Tok) (r : JV × Nat), t.b ≤ l.length → xs.length ≤ t.b → ks.length ≤ xs.length → widL xs ≤ l.length → pl l f o room ks xs t = .ok r → wid r.1 ≤ l.length) := by
  intro f
  induction f with
  | zero =>
    refine ⟨?_, ?_⟩
    · intro room t r _ h; rw [pv] at h; cases h
    · intro o room ks xs t r _ _ _ _ h; rw [pl] at h; cases h
  | succ f ih =>
    refine ⟨?_, ?_⟩
    · intro room t r ht h
      rw [pv] at h
      by_cases h1 : t.k = 11
      · rw [if_pos h1] at h; cases h; simp [zV, wid, widL]
      rw [if_neg h1] at h
      by_cases h2 : t.k = 9 ∨ t.k = 10
      · rw [if_pos h2] at h; cases h; simp [wid, widL]
      rw [if_neg h2] at h
      by_cases h3 : t.k = 8
      · rw [if_pos h3] at h; cases h; simp [wid, widL]
      rw [if_neg h3] at h
      by_cases h4 : t.k = 7
      · rw [if_pos h4] at h; cases h; simp [wid, widL]
      rw [if_neg h4] at h
      by_cases h5 : t.k = 1 ∨ t.k = 3
      · rw [if_pos h5] at h
        by_cases h6 : room < 1
        · rw [if_pos h6] at h; cases h
        rw [if_neg h6] at h
        cases hx : nx l t.b with
        | error e => rw [hx] at h; cases h
        | ok u =>
          rw [hx] at h; dsimp only at h
          have hu := nx_ok ht hx
          by_cases h7 : u.k = lastK (t.k == 1)
          · rw [if_pos h7] at h; cases h; simp [wid, widL]
          · rw [if_neg h7] at h
            exact ih.2 (t.k == 1) (room - 1) [] [] u r hu.2 (by simp) (by simp) (by simp [widL]) h
      · rw [if_neg h5] at h; cases h
    · intro o room ks xs t r ht hx hk hw h
      rw [pl_step] at h
      cases hi : itP l f o room ks t with
      | error e => rw [hi] at h; cases h
      | ok q =>
        rw [hi] at h; dsimp only at h
        obtain ⟨i1, i2, i3, i4⟩ := itP_ok ht hi
        have hwq : wid q.2.1 ≤ l.length := by
          unfold itP at hi
          cases o with
          | false =>
            rw [if_neg (by simp)] at hi
            dsimp only at hi
            cases hv : pv l f room t with
            | error e => rw [hv] at hi; cases hi
            | ok z => rw [hv] at hi; cases hi; exact ih.1 room t z ht hv
          | true =>
            rw [if_pos rfl] at hi
            cases hkk : keyP l ks t with
            | error e => rw [hkk] at hi; cases hi
            | ok u =>
              rw [hkk] at hi
              dsimp only at hi
              cases hv : pv l f room u with
              | error e => rw [hv] at hi; cases hi
              | ok z => rw [hv] at hi; cases hi; exact ih.1 room u z (keyP_ok ht hkk).2.1 hv
        have hkl : q.1.length ≤ xs.length + 1 := by
          cases o with
          | false => rw [i4 rfl]; omega
          | true => rw [i3 rfl]; omega
        cases hb : bhP l o q.2.2 with
        | error e => rw [hb] at h; cases h
        | ok c =>
          rw [hb] at h
          cases c with
          | inl b =>
            dsimp only at h
            cases h
            have hbb := bhP_end i2 hb
            show wid (.mk (kndV o) false 0 [] (xs ++ [q.2.1]) q.1) ≤ _
            rw [wid, widL_snoc, List.length_append]
            simp only [List.length_cons, List.length_nil]
            omega
          | inr t' =>
            dsimp only at h
            have hbb := bhP_more i2 hb
            refine ih.2 o room _ _ t' r hbb.2 ?_ ?_ ?_ h
            · rw [List.length_append]; simp; omega
            · rw [List.length_append]; simpa using hkl
            · rw [widL_snoc]; omega
theorem whole_wid {l : List UInt8} {room : Int} {v : JV} (h : whole l room = .ok v) : wid v ≤ l.length := by
  rw [whP_eq] at h
  unfold whP at h
  cases hx : nx l 0 with
  | error e => rw [hx] at h; cases h
  | ok t =>
    rw [hx] at h; dsimp only at h
    cases hv : pv l (2 * l.length + 1) room t with
    | error e => rw [hv] at h; cases h
    | ok r =>
      rw [hv] at h; dsimp only at h
      have hw := (read_wid l _).1 room t r (nx_ok (Nat.zero_le _) hx).2 hv
      cases hy : nx l r.2 with
      | error e =>
        rw [hy] at h; dsimp only at h
        by_cases h6 : e.2 = 6
        · rw [if_pos h6] at h; cases h; exact hw
        · rw [if_neg h6] at h; cases h
      | ok u => rw [hy] at h; cases h
theorem parse_wid (l : List UInt8) (d : Int) : wid (parseP l d).1 ≤ l.length := by
  unfold parseP
  cases hx : whole l (min d 16) with
  | error e => simp [zV, wid, widL]
  | ok v => exact whole_wid hx
mutual
/-- are two the same, in what their kind has? -/
def smJ : JV → JV → Bool
  | .mk k is n t xs ks, .mk k' is' n' t' xs' ks' => if k ≠ k' then false else if k = 1 then is == is' else if k = 2 then n == n' else if k = 3 then t == t' else if k = 5 then (ks == ks' && smL xs xs') else if k = 4 then smL xs xs' else true
def smL : List JV → List JV → Bool
  | [], [] => true
  | x :: xs, y :: ys => smJ x y && smL xs ys
  | _, _ => false
end
mutual
theorem smJ_refl : ∀ x : JV, smJ x x = true
  | .mk k is n t xs ks => by
    rw [smJ]
    rw [if_neg (by simp)]
    have := smL_refl xs
    (repeat' split) <;> simp [this]
theorem smL_refl : ∀ xs : List JV, smL xs xs = true
  | [] => by rw [smL]
  | x :: xs => by rw [smL, smJ_refl x, smL_refl xs]; rfl
end
theorem smL_len : ∀ {xs ys : List JV}, xs.length ≠ ys.length → smL xs ys = false
  | [], [], h => absurd rfl h
  | [], _ :: _, _ => by simp [smL]
  | _ :: _, [], _ => by simp [smL]
  | x :: xs, y :: ys, h => by rw [smL, smL_len (xs := xs) (ys := ys) (by simpa using h), Bool.and_false]
theorem smL_snoc : ∀ {xs ys : List JV} (x y : JV), xs.length = ys.length → smL (xs ++ [x]) (ys ++ [y]) = (smL xs ys && smJ x y)
  | [], [], x, y, _ => by simp [smL]
  | [], _ :: _, _, _, h => by simp at h
  | _ :: _, [], _, _, h => by simp at h
  | a :: xs, b :: ys, x, y, h => by rw [List.cons_append, List.cons_append, smL, smL_snoc x y (by simpa using h), smL, Bool.and_assoc]
theorem smL_pre : ∀ {xs ys : List JV} {i : Nat} (hi : i < xs.length) (hj : i < ys.length), smJ xs[i] ys[i] = false → smL xs ys = false
  | x :: xs, y :: ys, 0, _, _, h => by rw [smL]; simp only [List.getElem_cons_zero] at h; rw [h, Bool.false_and]
  | x :: xs, y :: ys, i + 1, hi, hj, h => by
    rw [smL, smL_pre (xs := xs) (ys := ys) (i := i) (by simpa using hi) (by simpa using hj) (by simpa using h), Bool.and_false]
/-- an item of a list, as it lies -/
theorem repL_at {P : Nat → Prop} {w : World} : ∀ {xs : List JV} {g off : Nat}, RepL P w xs g off → ∀ i (hi : i < xs.length), ∃ cs, CsAt w g (off + i * 6) cs ∧ Rep P w xs[i] cs
  | x :: r, g, off, h, 0, _ => by
    unfold RepL at h
    obtain ⟨⟨cs, h1, h2⟩, _⟩ := h
    exact ⟨cs, by simpa using h1, h2⟩
  | x :: r, g, off, h, i + 1, hi => by
    unfold RepL at h
    obtain ⟨cs, h1, h2⟩ := repL_at h.2 i (by simpa using hi)
    exact ⟨cs, by rw [show off + (i + 1) * 6 = off + 6 + i * 6 by omega]; exact h1, by simpa using h2⟩
theorem mkS_beq (t t' : List UInt8) : ((mkS t).toList == (mkS t').toList) = (t == t') := by
  rw [Lib.toList_data, Lib.toList_data, data_mkS, data_mkS]
/-- a value's cells, taken apart -/
theorem rep_c6 {P : Nat → Prop} {w : World} {k : Int} {is : Bool} {n : Int} {t : List UInt8} {xs : List JV} {ks : List (List UInt8)} {cs : List Value} (h : Rep P w (.mk k is n t xs ks) cs) : ∃ ao q1 ap q2, cs = c6 k is n (mkS t) ao xs.length q1 ap ks.length q2 ∧ RdK P w (.slice ap ks.length q2) ks ∧ (xs ≠ [] → ∃ g off, ao = some ⟨g, off, none⟩ ∧ P g ∧ g < w.heap.size ∧ RepL P w xs g off) := by
  unfold Rep at h
  obtain ⟨ao, cap, vk, rfl, hk, hh⟩ := h
  obtain ⟨ap, q2, rfl, hk2⟩ := hk
  exact ⟨ao, cap, ap, q2, rfl, ⟨ap, q2, rfl, hk2⟩, hh⟩
end Go.Proofs.YtkphainopofejaaDoor.Jv
namespace Go.Proofs.YtkphainopofejaaDoor.Jv
open Jt
open Go.RowKit Go.ChangeMaps Go.MapKept Go.WideMaps
set_option linter.unusedSimpArgs false
set_option linter.unusedVariables false

theorem bdrN (W : World) (n : Nat) : Below W.heap.size W (W.drewN n) := ⟨rfl, rfl, rfl, Nat.le_refl _, fun _ _ => rfl⟩
theorem btr {a b d : World} (h : Below a.heap.size a b) (k : Below b.heap.size b d) : Below a.heap.size a d := h.trans (k.mono h.size)
theorem Kep.of {P : Nat → Prop} {w w' : World} (h : Below w.heap.size w w') : Kep P w w' := ⟨h.size, fun k _ hl => h.block k hl⟩
theorem rdk_at {P : Nat → Prop} {w : World} {ao : Option Addr} {n q : Nat} {ks : List (List UInt8)} (h : RdK P w (.slice ao n q) ks) (h0 : 0 < ks.length) : ∃ g off, ao = some ⟨g, off, none⟩ ∧ g < w.heap.size ∧ ∀ j (hj : j < ks.length), w.cell? ⟨g, off + j, none⟩ = some (.string (mkS ks[j])) := by
  obtain ⟨ao', cap, e, _, hh⟩ := h
  injection e with e1 e2 e3
  subst e1
  obtain ⟨g, off, rfl, _, hg, hc⟩ := hh (List.length_pos_iff.1 h0)
  exact ⟨g, off, rfl, hg, fun j hj => hc j _ (by rw [List.getElem?_map, List.getElem?_eq_getElem hj]; rfl)⟩
theorem take_eq {α : Type} {a b : List α} {j : Nat} (ha : j < a.length) (hb : j < b.length) (h : a.take j = b.take j) (e : a[j] = b[j]) : a.take (j + 1) = b.take (j + 1) := by
  rw [List.take_succ_eq_append_getElem ha, List.take_succ_eq_append_getElem hb, h, e]
set_option maxRecDepth 100000 in
set_option maxHeartbeats 1000000 in
theorem EqK_c {P Q : Nat → Prop} {v1 v2 : Value} {ks ks' : List (List UInt8)} {w : World} (h1 : RdK P w v1 ks) (h2 : RdK Q w v2 ks') (hl : ks.length ≤ 1000000) (hl' : ks'.length ≤ 1000000) :
    Calls Tryd.prog 23 #[v1, v2] w fun e w' => e = .returned (.bool (ks == ks')) ∧ Below w.heap.size w w' := by
  have H1 := Lib.hid h1
  have H2 := Lib.hid h2
  obtain ⟨a1, c1, rfl, -⟩ := h1
  obtain ⟨a2, c2, rfl, -⟩ := h2
  by_cases hn : ks.length = ks'.length
  · obtain ⟨n, hn1⟩ : ∃ n, n = ks.length := ⟨_, rfl⟩
    have HN : Hid (ks.length = n ∧ ks'.length = n) := ⟨hn1.symm, by omega⟩
    rw [← hn, ← hn1]
    have hnl : n ≤ 1000000 := by omega
    clear hn hn1 hl hl'
    rw [HN.out.1] at H1
    rw [HN.out.2] at H2
    go_enter Tryd.func23, Tryd.ntmps23
    go_wp2
    go_loopw [13] (fun iv wr => ∃ j : Nat, j ≤ n ∧ iv = .int .i64 j ∧ Hid (ks.take j = ks'.take j) ∧ Hid (Below w.heap.size w wr)) (fun iv _ => n - (intOf iv).toNat)
    case atStart => exact ⟨0, by omega, rfl, Lib.hid (by simp), Lib.hid (Below.refl _ _)⟩
    case round =>
      obtain ⟨j, hj, rfl, HT, HB⟩ := hrel
      by_cases hlt : j < n
      · obtain ⟨g1, o1, rfl, hg1, hat1⟩ := rdk_at (RdK.keep (Kep.of HB.out) H1.out) (by rw [HN.out.1]; omega)
        obtain ⟨g2, o2, rfl, hg2, hat2⟩ := rdk_at (RdK.keep (Kep.of HB.out) H2.out) (by rw [HN.out.2]; omega)
        have hj0 : (0 : Int) ≤ (j : Int) := by omega
        have hjl : (j : Int) < (n : Int) := by omega
        have p1 := hat1 j (by rw [HN.out.1]; exact hlt)
        have p2 := hat2 j (by rw [HN.out.2]; exact hlt)
        have HTE := Lib.hid (take_eq (a := ks) (b := ks') (j := j) (by rw [HN.out.1]; exact hlt) (by rw [HN.out.2]; exact hlt) HT.out)
        have HPE : Hid (ks[j]'(by rw [HN.out.1]; exact hlt) ≠ ks'[j]'(by rw [HN.out.2]; exact hlt) → (ks == ks') = false) := fun hne => by
          rw [beq_eq_false_iff_ne]; intro e; subst e; exact hne rfl
        have HBD : Hid (∀ m, Below w.heap.size w (wr.drewN m)) := fun m => btr HB.out (bdrN wr m)
        generalize ks[j]'(by rw [HN.out.1]; exact hlt) = x at p1 HTE HPE
        generalize ks'[j]'(by rw [HN.out.2]; exact hlt) = y at p2 HTE HPE
        have hxy := mkS_beq x y
        clear hat1 hat2 HB HT
        by_cases he : x = y
        · have q1 : ((mkS x).toList == (mkS y).toList) = true := by rw [hxy]; simpa using he
          have q2 : ((mkS x).toList != (mkS y).toList) = false := by rw [bne, q1]; rfl
          have HT2 := Lib.hid (HTE.out he)
          clear he hxy HPE HTE
          go_wp2_with fail
          go_quiet (fail)
          go_wp2_with fail
          go_roundw
          case rel => exact ⟨j + 1, by omega, by go_num, HT2, Lib.hid (HBD.out _)⟩
          case measure => simp [intOf]; omega
        · have q1 : ((mkS x).toList == (mkS y).toList) = false := by rw [hxy]; simpa using he
          have q2 : ((mkS x).toList != (mkS y).toList) = true := by rw [bne, q1]; rfl
          have HF := Lib.hid (HPE.out he)
          clear he hxy HPE HTE
          go_wp2_with fail
          go_quiet (fail)
          go_wp2
          go_ret
          exact ⟨by rw [HF.out]; rfl, HBD.out _⟩
      · have hjl : ¬ (j : Int) < (n : Int) := by omega
        have hjn : j = n := by omega
        have HF : Hid ((ks == ks') = true) := by
          show _ = _
          have := HT.out
          rw [hjn, List.take_of_length_le (by rw [HN.out.1]; exact Nat.le_refl _), List.take_of_length_le (by rw [HN.out.2]; exact Nat.le_refl _)] at this
          simpa using this
        clear hjn HT
        go_wp2
        go_ret
        exact ⟨by rw [HF.out]; rfl, HB.out⟩
  · have HF : Hid ((ks == ks') = false) := by
      show _ = _
      rw [beq_eq_false_iff_ne]; intro e; exact hn (by rw [e])
    have q1 : ((ks.length : Int) == (ks'.length : Int)) = false := by simpa using (by omega : ¬ (ks.length : Int) = (ks'.length : Int))
    have q2 : ((ks.length : Int) != (ks'.length : Int)) = true := by rw [bne, q1]; rfl
    rw [HF.out]
    clear HF
    go_enter Tryd.func23, Tryd.ntmps23
    go_wp2
    go_ret
    exact ⟨rfl, Below.refl _ _⟩
/-- values in a slice -/
def IsVs (P : Nat → Prop) (w : World) (v : Value) (xs : List JV) : Prop := ∃ ao q, v = .slice ao xs.length q ∧ (xs ≠ [] → ∃ g off, ao = some ⟨g, off, none⟩ ∧ P g ∧ g < w.heap.size ∧ RepL P w xs g off)
theorem IsVs.keep {P : Nat → Prop} {w w' : World} {v : Value} {xs : List JV} (h : IsVs P w v xs) (hk : Kep P w w') : IsVs P w' v xs := by
  obtain ⟨ao, q, rfl, hh⟩ := h
  refine ⟨ao, q, rfl, fun hne => ?_⟩
  obtain ⟨g, off, rfl, hp, hg, hl⟩ := hh hne
  exact ⟨g, off, rfl, hp, Nat.lt_of_lt_of_le hg hk.1, RepL.keep hk xs hp hg hl⟩
theorem IsVs.at {P : Nat → Prop} {w : World} {ao : Option Addr} {n q : Nat} {xs : List JV} (h : IsVs P w (.slice ao n q) xs) (h0 : 0 < xs.length) : ∃ g off, ao = some ⟨g, off, none⟩ ∧ g < w.heap.size ∧ ∀ i (hi : i < xs.length), ∃ cs, CsAt w g (off + i * 6) cs ∧ Rep P w xs[i] cs := by
  obtain ⟨ao', cap, e, hh⟩ := h
  injection e with e1 e2 e3
  subst e1
  obtain ⟨g, off, rfl, _, hg, hl⟩ := hh (List.length_pos_iff.1 h0)
  exact ⟨g, off, rfl, hg, repL_at hl⟩
theorem cs6 {w : World} {g o : Nat} {a b c d e f : Value} (h : CsAt w g o [a, b, c, d, e, f]) : w.cell? ⟨g, o, none⟩ = some a ∧ w.cell? ⟨g, o + 1, none⟩ = some b ∧ w.cell? ⟨g, o + 2, none⟩ = some c ∧ w.cell? ⟨g, o + 3, none⟩ = some d ∧ w.cell? ⟨g, o + 4, none⟩ = some e ∧ w.cell? ⟨g, o + 5, none⟩ = some f :=
  ⟨by simpa using h 0 a rfl, h 1 b rfl, h 2 c rfl, h 3 d rfl, h 4 e rfl, h 5 f rfl⟩
abbrev fSame : Value := .func (.func 8) #[] #[]
def SmQ (b : Bool) (w : World) (e : Ending) (w' : World) : Prop := e = .returned (.bool b) ∧ Below w.heap.size w w'
set_option maxRecDepth 100000 in
set_option maxHeartbeats 2000000 in
theorem EqF_c {P Q : Nat → Prop} {v1 v2 : Value} {xs ys : List JV} {w : World} (h1 : IsVs P w v1 xs) (h2 : IsVs Q w v2 ys) (hl : xs.length ≤ 1000000) (hl' : ys.length ≤ 1000000)
    (HS : ∀ i (hi : i < xs.length) (hj : i < ys.length) (W : World) (ca cb : List Value), Rep P W xs[i] ca → Rep Q W ys[i] cb → Calls Tryd.prog 8 #[.agg ca.toArray, .agg cb.toArray] W (SmQ (smJ xs[i] ys[i]) W)) :
    Calls Tryd.prog 24 #[v1, v2, fSame] w (SmQ (smL xs ys) w) := by
  have H1 := Lib.hid h1
  have H2 := Lib.hid h2
  have HSS := Lib.hid HS
  obtain ⟨a1, c1, rfl, -⟩ := h1
  obtain ⟨a2, c2, rfl, -⟩ := h2
  clear HS
  by_cases hn : xs.length = ys.length
  · obtain ⟨n, hn1⟩ : ∃ n, n = xs.length := ⟨_, rfl⟩
    have HN : Hid (xs.length = n ∧ ys.length = n) := ⟨hn1.symm, by omega⟩
    rw [← hn, ← hn1]
    have hnl : n ≤ 1000000 := by omega
    clear hn hn1 hl hl'
    rw [HN.out.1] at H1
    rw [HN.out.2] at H2
    go_enter Tryd.func24, Tryd.ntmps24
    go_wp2
    go_loopw [17] (fun iv wr => ∃ j : Nat, j ≤ n ∧ iv = .int .i64 j ∧ Hid (smL (xs.take j) (ys.take j) = true) ∧ Hid (Below w.heap.size w wr)) (fun iv _ => n - (intOf iv).toNat)
    case atStart => exact ⟨0, by omega, rfl, Lib.hid (by simp [smL]), Lib.hid (Below.refl _ _)⟩
    case round =>
      obtain ⟨j, hj, rfl, HT, HB⟩ := hrel
      by_cases hlt : j < n
      · have HX1 := Lib.hid (show j < xs.length by rw [HN.out.1]; exact hlt)
        have HY1 := Lib.hid (show j < ys.length by rw [HN.out.2]; exact hlt)
        obtain ⟨g1, o1, rfl, hg1, hat1⟩ := (H1.out.keep (Kep.of HB.out)).at (by have := HX1.out; omega)
        obtain ⟨g2, o2, rfl, hg2, hat2⟩ := (H2.out.keep (Kep.of HB.out)).at (by have := HY1.out; omega)
        have hj0 : (0 : Int) ≤ (j : Int) := by omega
        have hjl : (j : Int) < (n : Int) := by omega
        obtain ⟨ca, hca, hra⟩ := hat1 j HX1.out
        obtain ⟨cb, hcb, hrb⟩ := hat2 j HY1.out
        have HTS : Hid (smL (xs.take (j + 1)) (ys.take (j + 1)) = smJ (xs[j]'HX1.out) (ys[j]'HY1.out)) := by
          show _ = _
          rw [List.take_succ_eq_append_getElem HX1.out, List.take_succ_eq_append_getElem HY1.out, smL_snoc _ _ (by rw [List.length_take, List.length_take, HN.out.1, HN.out.2]), HT.out, Bool.true_and]
        have HPF := Lib.hid (smL_pre HX1.out HY1.out)
        obtain ⟨⟨k, is, nn, t, ixs, iks⟩, hx⟩ : ∃ x, xs[j]'HX1.out = x := ⟨_, rfl⟩
        obtain ⟨⟨k', is', nn', t', ixs', iks'⟩, hy⟩ : ∃ y, ys[j]'HY1.out = y := ⟨_, rfl⟩
        have HCC := Lib.hid (fun W => HSS.out j HX1.out HY1.out W)
        rw [hx] at hra
        rw [hy] at hrb
        rw [hx, hy] at HTS HPF
        rw [hx, hy] at HCC
        obtain ⟨ao, q1, ap, q2, rfl, _⟩ := rep_c6 hra
        obtain ⟨ao', q1', ap', q2', rfl, _⟩ := rep_c6 hrb
        obtain ⟨p0, p1, p2, p3, p4, p5⟩ := cs6 hca
        obtain ⟨r0, r1, r2, r3, r4, r5⟩ := cs6 hcb
        obtain ⟨W1, hW1, hk1, hb1⟩ := one_v6 wr k is nn (mkS t) ao ixs.length q1 ap iks.length q2
        obtain ⟨W2, hW2, hk2, hb2⟩ := one_v6 W1 k' is' nn' (mkS t') ao' ixs'.length q1' ap' iks'.length q2'
        have HW1 := Lib.hid hW1
        have HW2 := Lib.hid hW2
        have hb12 := btr hb1 hb2
        have HB2 : Hid (Below w.heap.size w W2) := btr HB.out hb12
        have hz1 : wr.heap.size < W1.heap.size := (Array.getElem?_eq_some_iff.1 hk1).1
        obtain ⟨m0, m1, m2, m3, m4, m5⟩ := cells6 hk1
        have HK1 : Hid (W2.heap[wr.heap.size]? = some (obV k is nn (mkS t) ao ixs.length q1 ap iks.length q2)) := (hb2.block _ hz1).trans hk1
        have HK2 : Hid (W2.heap[W1.heap.size]? = some (obV k' is' nn' (mkS t') ao' ixs'.length q1' ap' iks'.length q2')) := hk2
        have HCS := Lib.hid (HCC.out W2 _ _ (Rep.keep (Kep.of hb12) _ hra) (Rep.keep (Kep.of hb12) _ hrb))
        have hn1 : g1 ≠ wr.heap.size := by omega
        have hn2 : g2 ≠ wr.heap.size := by omega
        have HR : Hid (W1.cell? ⟨g2, o2 + j * 6, none⟩ = some (.int .i64 k') ∧ W1.cell? ⟨g2, o2 + j * 6 + 1, none⟩ = some (.bool is') ∧ W1.cell? ⟨g2, o2 + j * 6 + 2, none⟩ = some (.int .i64 nn') ∧ W1.cell? ⟨g2, o2 + j * 6 + 3, none⟩ = some (.string (mkS t')) ∧ W1.cell? ⟨g2, o2 + j * 6 + 4, none⟩ = some (.slice ao' ixs'.length q1') ∧ W1.cell? ⟨g2, o2 + j * 6 + 5, none⟩ = some (.slice ap' iks'.length q2')) := cs6 (CsAt.keep (P := fun _ => True) (Kep.of hb1) trivial hg2 hcb)
        clear hat1 hat2 hca hcb hra hrb hx hy HCC hW1 hk1 hb1 hW2 hk2 hb2 hb12 HB HT m0 m1 m2 m3 m4 m5 r0 r1 r2 r3 r4 r5
        go_upto_region 6 with (fail)
        rw [← HW1.out]
        obtain ⟨r0, r1, r2, r3, r4, r5⟩ := HR.out
        clear p0 p1 p2 p3 p4 p5
        go_upto_region 7 with (fail)
        rw [← HW2.out]
        obtain ⟨m0, m1, m2, m3, m4, m5⟩ := cells6 HK1.out
        obtain ⟨l0, l1, l2, l3, l4, l5⟩ := cells6 HK2.out
        clear r0 r1 r2 r3 r4 r5
        cases hs : smJ (.mk k is nn t ixs iks) (.mk k' is' nn' t' ixs' iks') with
        | true =>
          rw [hs] at HCS HTS
          unfold SmQ at HCS
          clear HPF hs
          go_wp2_with fail
          (with_reducible refine HCS.out.mono ?_)
          rintro e w4 ⟨rfl, hb4⟩
          have HB4 := Lib.hid (btr HB2.out hb4)
          clear hb4 m0 m1 m2 m3 m4 m5 l0 l1 l2 l3 l4 l5
          go_wp2
          go_roundw
          case rel => exact ⟨j + 1, by omega, by go_num, HTS, HB4⟩
          case measure => simp [intOf]; omega
        | false =>
          rw [hs] at HCS
          have HPF2 := Lib.hid (HPF.out hs)
          unfold SmQ at HCS
          clear HPF HTS hs
          go_wp2_with fail
          (with_reducible refine HCS.out.mono ?_)
          rintro e w4 ⟨rfl, hb4⟩
          have HB4 := Lib.hid (btr HB2.out hb4)
          clear hb4 m0 m1 m2 m3 m4 m5 l0 l1 l2 l3 l4 l5
          go_wp2
          go_ret
          exact ⟨by rw [HPF2.out]; rfl, HB4.out⟩
      · have hjl : ¬ (j : Int) < (n : Int) := by omega
        have hjn : j = n := by omega
        have HF : Hid (smL xs ys = true) := by
          show _ = _
          have := HT.out
          rwa [hjn, List.take_of_length_le (by rw [HN.out.1]; exact Nat.le_refl _), List.take_of_length_le (by rw [HN.out.2]; exact Nat.le_refl _)] at this
        clear hjn HT
        go_wp2
        go_ret
        exact ⟨by rw [HF.out]; rfl, HB.out⟩
  · have HF := Lib.hid (smL_len hn)
    have q1 : ((xs.length : Int) == (ys.length : Int)) = false := by simpa using (by omega : ¬ (xs.length : Int) = (ys.length : Int))
    have q2 : ((xs.length : Int) != (ys.length : Int)) = true := by rw [bne, q1]; rfl
    rw [HF.out]
    clear HF
    go_enter Tryd.func24, Tryd.ntmps24
    go_wp2
    go_ret
    exact ⟨rfl, Below.refl _ _⟩
end Go.Proofs.YtkphainopofejaaDoor.Jv
namespace Go.Proofs.YtkphainopofejaaDoor.Jv
open Jt
open Go.RowKit Go.ChangeMaps Go.MapKept Go.WideMaps
set_option linter.unusedSimpArgs false
set_option linter.unusedVariables false

/-- two boxes -/
theorem two_v (w : World) (k : Int) (b : Bool) (n : Int) (tx : ByteArray) (ao : Option Addr) (l1 q1 : Nat) (ap : Option Addr) (l2 q2 : Nat) (k' : Int) (b' : Bool) (n' : Int) (tx' : ByteArray) (ao' : Option Addr) (l1' q1' : Nat) (ap' : Option Addr) (l2' q2' : Nat) :
    ∃ W, W = (w.alloc (obV k b n tx ao l1 q1 ap l2 q2)).alloc (obV k' b' n' tx' ao' l1' q1' ap' l2' q2') ∧ W.heap[w.heap.size]? = some (obV k b n tx ao l1 q1 ap l2 q2) ∧ W.heap[w.heap.size + 1]? = some (obV k' b' n' tx' ao' l1' q1' ap' l2' q2') ∧ Below w.heap.size w W := by
  refine ⟨_, rfl, ?_, ?_, ((Below.refl _ _).alloc (Nat.le_refl _) _).alloc (by simp) _⟩
  · exact (((Below.refl (w.heap.size + 1) (w.alloc (obV k b n tx ao l1 q1 ap l2 q2))).alloc (by simp) _).block _ (by omega)).trans (heap_alloc_new w _)
  · have := heap_alloc_new (w.alloc (obV k b n tx ao l1 q1 ap l2 q2)) (obV k' b' n' tx' ao' l1' q1' ap' l2' q2')
    simpa using this
set_option maxRecDepth 100000 in
set_option maxHeartbeats 2000000 in
theorem sm_ne (k k' : Int) (is : Bool) (n : Int) (tx : ByteArray) (ao : Option Addr) (l1 q1 : Nat) (ap : Option Addr) (l2 q2 : Nat) (is' : Bool) (n' : Int) (tx' : ByteArray) (ao' : Option Addr) (l1' q1' : Nat) (ap' : Option Addr) (l2' q2' : Nat) (w : World) (hk : k ≠ k') :
    Calls Tryd.prog 8 #[.agg #[.int .i64 k, .bool is, .int .i64 n, .string tx, .slice ao l1 q1, .slice ap l2 q2], .agg #[.int .i64 k', .bool is', .int .i64 n', .string tx', .slice ao' l1' q1', .slice ap' l2' q2']] w (SmQ false w) := by
  obtain ⟨W0, hW0, hk0, hk1, hb0⟩ := two_v w k is n tx ao l1 q1 ap l2 q2 k' is' n' tx' ao' l1' q1' ap' l2' q2'
  have HW0 := Lib.hid hW0
  have HB0 := Lib.hid hb0
  obtain ⟨a0, a1, a2, a3, a4, a5⟩ := cells6 hk0
  obtain ⟨c0, c1, c2, c3, c4, c5⟩ := cells6 hk1
  clear hW0 hb0 hk0 hk1
  have e1 : (k == k') = false := by simpa using hk
  have e2 : (k != k') = true := by rw [bne, e1]; rfl
  clear hk
  go_enter Tryd.func8, Tryd.ntmps8
  go_upto_region 1 with (fail)
  rw [← HW0.out]
  go_wp2
  go_ret
  exact ⟨rfl, HB0.out⟩
set_option maxRecDepth 100000 in
set_option maxHeartbeats 2000000 in
theorem sm_1 (is : Bool) (n : Int) (tx : ByteArray) (ao : Option Addr) (l1 q1 : Nat) (ap : Option Addr) (l2 q2 : Nat) (is' : Bool) (n' : Int) (tx' : ByteArray) (ao' : Option Addr) (l1' q1' : Nat) (ap' : Option Addr) (l2' q2' : Nat) (w : World) :
    Calls Tryd.prog 8 #[.agg #[.int .i64 1, .bool is, .int .i64 n, .string tx, .slice ao l1 q1, .slice ap l2 q2], .agg #[.int .i64 1, .bool is', .int .i64 n', .string tx', .slice ao' l1' q1', .slice ap' l2' q2']] w (SmQ (is == is') w) := by
  obtain ⟨W0, hW0, hk0, hk1, hb0⟩ := two_v w 1 is n tx ao l1 q1 ap l2 q2 1 is' n' tx' ao' l1' q1' ap' l2' q2'
  have HW0 := Lib.hid hW0
  have HB0 := Lib.hid hb0
  obtain ⟨a0, a1, a2, a3, a4, a5⟩ := cells6 hk0
  obtain ⟨c0, c1, c2, c3, c4, c5⟩ := cells6 hk1
  clear hW0 hb0 hk0 hk1
  go_enter Tryd.func8, Tryd.ntmps8
  go_upto_region 1 with (fail)
  rw [← HW0.out]
  go_wp2
  go_ret
  exact ⟨rfl, HB0.out⟩
set_option maxRecDepth 100000 in
set_option maxHeartbeats 2000000 in
theorem sm_2 (is : Bool) (n : Int) (tx : ByteArray) (ao : Option Addr) (l1 q1 : Nat) (ap : Option Addr) (l2 q2 : Nat) (is' : Bool) (n' : Int) (tx' : ByteArray) (ao' : Option Addr) (l1' q1' : Nat) (ap' : Option Addr) (l2' q2' : Nat) (w : World) :
    Calls Tryd.prog 8 #[.agg #[.int .i64 2, .bool is, .int .i64 n, .string tx, .slice ao l1 q1, .slice ap l2 q2], .agg #[.int .i64 2, .bool is', .int .i64 n', .string tx', .slice ao' l1' q1', .slice ap' l2' q2']] w (SmQ (n == n') w) := by
  obtain ⟨W0, hW0, hk0, hk1, hb0⟩ := two_v w 2 is n tx ao l1 q1 ap l2 q2 2 is' n' tx' ao' l1' q1' ap' l2' q2'
  have HW0 := Lib.hid hW0
  have HB0 := Lib.hid hb0
  obtain ⟨a0, a1, a2, a3, a4, a5⟩ := cells6 hk0
  obtain ⟨c0, c1, c2, c3, c4, c5⟩ := cells6 hk1
  clear hW0 hb0 hk0 hk1
  go_enter Tryd.func8, Tryd.ntmps8
  go_upto_region 1 with (fail)
  rw [← HW0.out]
  go_wp2
  go_ret
  exact ⟨rfl, HB0.out⟩
set_option maxRecDepth 100000 in
set_option maxHeartbeats 2000000 in
theorem sm_3 (is : Bool) (n : Int) (tx : ByteArray) (ao : Option Addr) (l1 q1 : Nat) (ap : Option Addr) (l2 q2 : Nat) (is' : Bool) (n' : Int) (tx' : ByteArray) (ao' : Option Addr) (l1' q1' : Nat) (ap' : Option Addr) (l2' q2' : Nat) (w : World) :
    Calls Tryd.prog 8 #[.agg #[.int .i64 3, .bool is, .int .i64 n, .string tx, .slice ao l1 q1, .slice ap l2 q2], .agg #[.int .i64 3, .bool is', .int .i64 n', .string tx', .slice ao' l1' q1', .slice ap' l2' q2']] w (SmQ (tx.toList == tx'.toList) w) := by
  obtain ⟨W0, hW0, hk0, hk1, hb0⟩ := two_v w 3 is n tx ao l1 q1 ap l2 q2 3 is' n' tx' ao' l1' q1' ap' l2' q2'
  have HW0 := Lib.hid hW0
  have HB0 := Lib.hid hb0
  obtain ⟨a0, a1, a2, a3, a4, a5⟩ := cells6 hk0
  obtain ⟨c0, c1, c2, c3, c4, c5⟩ := cells6 hk1
  clear hW0 hb0 hk0 hk1
  go_enter Tryd.func8, Tryd.ntmps8
  go_upto_region 1 with (fail)
  rw [← HW0.out]
  go_wp2
  go_ret
  exact ⟨rfl, HB0.out⟩
set_option maxRecDepth 100000 in
set_option maxHeartbeats 2000000 in
theorem sm_o (k : Int) (is : Bool) (n : Int) (tx : ByteArray) (ao : Option Addr) (l1 q1 : Nat) (ap : Option Addr) (l2 q2 : Nat) (is' : Bool) (n' : Int) (tx' : ByteArray) (ao' : Option Addr) (l1' q1' : Nat) (ap' : Option Addr) (l2' q2' : Nat) (w : World) (hk : k ≠ 1 ∧ k ≠ 2 ∧ k ≠ 3 ∧ k ≠ 5 ∧ k ≠ 4) :
    Calls Tryd.prog 8 #[.agg #[.int .i64 k, .bool is, .int .i64 n, .string tx, .slice ao l1 q1, .slice ap l2 q2], .agg #[.int .i64 k, .bool is', .int .i64 n', .string tx', .slice ao' l1' q1', .slice ap' l2' q2']] w (SmQ true w) := by
  obtain ⟨W0, hW0, hk0, hk1, hb0⟩ := two_v w k is n tx ao l1 q1 ap l2 q2 k is' n' tx' ao' l1' q1' ap' l2' q2'
  have HW0 := Lib.hid hW0
  have HB0 := Lib.hid hb0
  obtain ⟨a0, a1, a2, a3, a4, a5⟩ := cells6 hk0
  obtain ⟨c0, c1, c2, c3, c4, c5⟩ := cells6 hk1
  clear hW0 hb0 hk0 hk1
  obtain ⟨h1, h2, h3, h4, h5⟩ := hk
  have e1 : (k == 1) = false := by simpa using h1
  have e2 : (k == 2) = false := by simpa using h2
  have e3 : (k == 3) = false := by simpa using h3
  have e4 : (k == 5) = false := by simpa using h4
  have e5 : (k == 4) = false := by simpa using h5
  clear h1 h2 h3 h4 h5
  go_enter Tryd.func8, Tryd.ntmps8
  go_upto_region 1 with (fail)
  rw [← HW0.out]
  go_wp2
  go_ret
  exact ⟨rfl, HB0.out⟩
set_option maxRecDepth 100000 in
set_option maxHeartbeats 2000000 in
theorem sm_4 (b : Bool) (is : Bool) (n : Int) (tx : ByteArray) (ao : Option Addr) (l1 q1 : Nat) (ap : Option Addr) (l2 q2 : Nat) (is' : Bool) (n' : Int) (tx' : ByteArray) (ao' : Option Addr) (l1' q1' : Nat) (ap' : Option Addr) (l2' q2' : Nat) (w : World) (HF : Hid (∀ W, Below w.heap.size w W → Calls Tryd.prog 24 #[.slice ao l1 q1, .slice ao' l1' q1', fSame] W (SmQ b W))) :
    Calls Tryd.prog 8 #[.agg #[.int .i64 4, .bool is, .int .i64 n, .string tx, .slice ao l1 q1, .slice ap l2 q2], .agg #[.int .i64 4, .bool is', .int .i64 n', .string tx', .slice ao' l1' q1', .slice ap' l2' q2']] w (SmQ b w) := by
  obtain ⟨W0, hW0, hk0, hk1, hb0⟩ := two_v w 4 is n tx ao l1 q1 ap l2 q2 4 is' n' tx' ao' l1' q1' ap' l2' q2'
  have HW0 := Lib.hid hW0
  have HB0 := Lib.hid hb0
  obtain ⟨a0, a1, a2, a3, a4, a5⟩ := cells6 hk0
  obtain ⟨c0, c1, c2, c3, c4, c5⟩ := cells6 hk1
  clear hW0 hb0 hk0 hk1
  go_enter Tryd.func8, Tryd.ntmps8
  go_upto_region 1 with (fail)
  rw [← HW0.out]
  go_wp2_with fail
  (with_reducible refine (HF.out W0 HB0.out).mono ?_)
  rintro e w3 ⟨rfl, hb3⟩
  have HB3 := Lib.hid (btr HB0.out hb3)
  clear hb3 a0 a1 a2 a3 a4 a5 c0 c1 c2 c3 c4 c5
  go_wp2
  go_ret
  exact ⟨rfl, HB3.out⟩
set_option maxRecDepth 100000 in
set_option maxHeartbeats 2000000 in
theorem sm_5t (b : Bool) (is : Bool) (n : Int) (tx : ByteArray) (ao : Option Addr) (l1 q1 : Nat) (ap : Option Addr) (l2 q2 : Nat) (is' : Bool) (n' : Int) (tx' : ByteArray) (ao' : Option Addr) (l1' q1' : Nat) (ap' : Option Addr) (l2' q2' : Nat) (w : World) (HK : Hid (∀ W, Below w.heap.size w W → Calls Tryd.prog 23 #[.slice ap l2 q2, .slice ap' l2' q2'] W fun e w' => e = .returned (.bool true) ∧ Below W.heap.size W w')) (HF : Hid (∀ W, Below w.heap.size w W → Calls Tryd.prog 24 #[.slice ao l1 q1, .slice ao' l1' q1', fSame] W (SmQ b W))) :
    Calls Tryd.prog 8 #[.agg #[.int .i64 5, .bool is, .int .i64 n, .string tx, .slice ao l1 q1, .slice ap l2 q2], .agg #[.int .i64 5, .bool is', .int .i64 n', .string tx', .slice ao' l1' q1', .slice ap' l2' q2']] w (SmQ b w) := by
  obtain ⟨W0, hW0, hk0, hk1, hb0⟩ := two_v w 5 is n tx ao l1 q1 ap l2 q2 5 is' n' tx' ao' l1' q1' ap' l2' q2'
  have HW0 := Lib.hid hW0
  have HB0 := Lib.hid hb0
  obtain ⟨a0, a1, a2, a3, a4, a5⟩ := cells6 hk0
  obtain ⟨c0, c1, c2, c3, c4, c5⟩ := cells6 hk1
  have HA0 := Lib.hid hk0
  have HA1 := Lib.hid hk1
  clear hW0 hb0 hk0 hk1
  go_enter Tryd.func8, Tryd.ntmps8
  go_upto_region 1 with (fail)
  rw [← HW0.out]
  go_wp2_with fail
  (with_reducible refine (HK.out W0 HB0.out).mono ?_)
  rintro e w2 ⟨rfl, hb2⟩
  have HB2 := Lib.hid (btr HB0.out hb2)
  clear a0 a1 a2 a3 a4 a5 c0 c1 c2 c3 c4 c5
  obtain ⟨a0, a1, a2, a3, a4, a5⟩ := cells6 ((hb2.block _ (Array.getElem?_eq_some_iff.1 HA0.out).1).trans HA0.out)
  obtain ⟨c0, c1, c2, c3, c4, c5⟩ := cells6 ((hb2.block _ (Array.getElem?_eq_some_iff.1 HA1.out).1).trans HA1.out)
  clear hb2
  go_wp2_with fail
  (with_reducible refine (HF.out w2 HB2.out).mono ?_)
  rintro e w3 ⟨rfl, hb3⟩
  have HB3 := Lib.hid (btr HB2.out hb3)
  clear hb3 a0 a1 a2 a3 a4 a5 c0 c1 c2 c3 c4 c5
  go_wp2
  go_ret
  exact ⟨rfl, HB3.out⟩
set_option maxRecDepth 100000 in
set_option maxHeartbeats 2000000 in
theorem sm_5f (is : Bool) (n : Int) (tx : ByteArray) (ao : Option Addr) (l1 q1 : Nat) (ap : Option Addr) (l2 q2 : Nat) (is' : Bool) (n' : Int) (tx' : ByteArray) (ao' : Option Addr) (l1' q1' : Nat) (ap' : Option Addr) (l2' q2' : Nat) (w : World) (HK : Hid (∀ W, Below w.heap.size w W → Calls Tryd.prog 23 #[.slice ap l2 q2, .slice ap' l2' q2'] W fun e w' => e = .returned (.bool false) ∧ Below W.heap.size W w')) :
    Calls Tryd.prog 8 #[.agg #[.int .i64 5, .bool is, .int .i64 n, .string tx, .slice ao l1 q1, .slice ap l2 q2], .agg #[.int .i64 5, .bool is', .int .i64 n', .string tx', .slice ao' l1' q1', .slice ap' l2' q2']] w (SmQ false w) := by
  obtain ⟨W0, hW0, hk0, hk1, hb0⟩ := two_v w 5 is n tx ao l1 q1 ap l2 q2 5 is' n' tx' ao' l1' q1' ap' l2' q2'
  have HW0 := Lib.hid hW0
  have HB0 := Lib.hid hb0
  obtain ⟨a0, a1, a2, a3, a4, a5⟩ := cells6 hk0
  obtain ⟨c0, c1, c2, c3, c4, c5⟩ := cells6 hk1
  have HA0 := Lib.hid hk0
  have HA1 := Lib.hid hk1
  clear hW0 hb0 hk0 hk1
  go_enter Tryd.func8, Tryd.ntmps8
  go_upto_region 1 with (fail)
  rw [← HW0.out]
  go_wp2_with fail
  (with_reducible refine (HK.out W0 HB0.out).mono ?_)
  rintro e w2 ⟨rfl, hb2⟩
  have HB2 := Lib.hid (btr HB0.out hb2)
  clear a0 a1 a2 a3 a4 a5 c0 c1 c2 c3 c4 c5
  obtain ⟨a0, a1, a2, a3, a4, a5⟩ := cells6 ((hb2.block _ (Array.getElem?_eq_some_iff.1 HA0.out).1).trans HA0.out)
  obtain ⟨c0, c1, c2, c3, c4, c5⟩ := cells6 ((hb2.block _ (Array.getElem?_eq_some_iff.1 HA1.out).1).trans HA1.out)
  clear hb2
  go_wp2
  go_ret
  exact ⟨rfl, HB2.out⟩
theorem isvs {P : Nat → Prop} {w : World} {ao : Option Addr} {q : Nat} {xs : List JV} (h : xs ≠ [] → ∃ g off, ao = some ⟨g, off, none⟩ ∧ P g ∧ g < w.heap.size ∧ RepL P w xs g off) : IsVs P w (.slice ao xs.length q) xs := ⟨ao, q, rfl, h⟩
/-- Same, of trees not deeper than n -/
theorem same_all : ∀ (n : Nat) (x y : JV), dep x ≤ n → wid x ≤ 1000000 → wid y ≤ 1000000 → ∀ (P Q : Nat → Prop) (W : World) (ca cb : List Value), Rep P W x ca → Rep Q W y cb → Calls Tryd.prog 8 #[.agg ca.toArray, .agg cb.toArray] W (SmQ (smJ x y) W)
  | n, .mk k is m t xs ks, .mk k' is' m' t' xs' ks', hd, hw, hw', P, Q, W, ca, cb, ha, hb => by
    obtain ⟨ao, q1, ap, q2, rfl, hka, hla⟩ := rep_c6 ha
    obtain ⟨ao', q1', ap', q2', rfl, hkb, hlb⟩ := rep_c6 hb
    rw [wid] at hw hw'
    rw [smJ]
    by_cases hkk : k ≠ k'
    · rw [if_pos hkk]
      exact sm_ne k k' _ _ _ _ _ _ _ _ _ _ _ _ _ _ _ _ _ _ W hkk
    rw [if_neg hkk]
    obtain rfl : k = k' := by omega
    by_cases h1 : k = 1
    · rw [if_pos h1]; subst h1
      exact sm_1 _ _ _ _ _ _ _ _ _ _ _ _ _ _ _ _ _ _ W
    rw [if_neg h1]
    by_cases h2 : k = 2
    · rw [if_pos h2]; subst h2
      exact sm_2 _ _ _ _ _ _ _ _ _ _ _ _ _ _ _ _ _ _ W
    rw [if_neg h2]
    by_cases h3 : k = 3
    · rw [if_pos h3]; subst h3
      have := sm_3 is m (mkS t) ao xs.length q1 ap ks.length q2 is' m' (mkS t') ao' xs'.length q1' ap' ks'.length q2' W
      rw [mkS_beq] at this
      exact this
    rw [if_neg h3]
    have hEF : ∀ V, Below W.heap.size W V → (k = 4 ∨ k = 5) → Calls Tryd.prog 24 #[.slice ao xs.length q1, .slice ao' xs'.length q1', fSame] V (SmQ (smL xs xs') V) := fun V hV hk45 => by
      rw [dep, if_pos hk45] at hd
      obtain ⟨n', rfl⟩ : ∃ n', n = n' + 1 := ⟨n - 1, by omega⟩
      refine EqF_c ((isvs hla).keep (Kep.of hV)) ((isvs hlb).keep (Kep.of hV)) (by omega) (by omega) fun i hi hj V' ca cb hra hrb => ?_
      exact same_all n' xs[i] xs'[i] (by have := dep_mem hi; omega) (by have := wid_mem hi; omega) (by have := wid_mem hj; omega) P Q V' ca cb hra hrb
    by_cases h5 : k = 5
    · rw [if_pos h5]
      have HK := fun V (hV : Below W.heap.size W V) => EqK_c (RdK.keep (Kep.of hV) hka) (RdK.keep (Kep.of hV) hkb) (by omega) (by omega)
      have HEF := fun V hV => hEF V hV (.inr h5)
      subst h5
      cases hks : (ks == ks') with
      | true =>
        rw [hks] at HK
        rw [Bool.true_and]
        exact sm_5t _ _ _ _ _ _ _ _ _ _ _ _ _ _ _ _ _ _ _ W (Lib.hid HK) (Lib.hid HEF)
      | false =>
        rw [hks] at HK
        rw [Bool.false_and]
        exact sm_5f _ _ _ _ _ _ _ _ _ _ _ _ _ _ _ _ _ _ W (Lib.hid HK)
    rw [if_neg h5]
    by_cases h4 : k = 4
    · rw [if_pos h4]
      have HEF := fun V hV => hEF V hV (.inl h4)
      subst h4
      exact sm_4 _ _ _ _ _ _ _ _ _ _ _ _ _ _ _ _ _ _ _ W (Lib.hid HEF)
    rw [if_neg h4]
    exact sm_o k _ _ _ _ _ _ _ _ _ _ _ _ _ _ _ _ _ _ W ⟨h1, h2, h3, h5, h4⟩
theorem Same_c {P Q : Nat → Prop} {x y : JV} {ca cb : List Value} {w : World} (ha : Rep P w x ca) (hb : Rep Q w y cb) (hw : wid x ≤ 1000000) (hw' : wid y ≤ 1000000) : Calls Tryd.prog 8 #[.agg ca.toArray, .agg cb.toArray] w (SmQ (smJ x y) w) :=
  same_all (dep x) x y (Nat.le_refl _) hw hw' P Q w ca cb ha hb
end Go.Proofs.YtkphainopofejaaDoor.Jv
namespace Go.Proofs.YtkphainopofejaaDoor.Jv
open Jt
open Go.RowKit Go.ChangeMaps Go.MapKept Go.WideMaps
set_option linter.unusedSimpArgs false
set_option linter.unusedVariables false

def DpQ (n : Nat) (w : World) (e : Ending) (w' : World) : Prop := e = .returned (.int .i64 (n : Int)) ∧ Below w.heap.size w w'
theorem depL_take {xs : List JV} {j : Nat} (hj : j < xs.length) : depL (xs.take (j + 1)) = max (depL (xs.take j)) (dep xs[j]) := by
  rw [List.take_succ_eq_append_getElem hj, depL_snoc]
theorem depL_le {xs : List JV} (j : Nat) : depL (xs.take j) ≤ depL xs := by
  induction xs generalizing j with
  | nil => simp
  | cons x xs ih =>
    cases j with
    | zero => simp [depL]
    | succ j => rw [List.take_succ_cons, depL, depL]; have := ih j; omega
set_option maxRecDepth 100000 in
set_option maxHeartbeats 1000000 in
theorem dp_o (k : Int) (is : Bool) (n : Int) (tx : ByteArray) (ao : Option Addr) (l1 q1 : Nat) (ap : Option Addr) (l2 q2 : Nat) (w : World) (hk : k ≠ 4 ∧ k ≠ 5) :
    Calls Tryd.prog 10 #[.agg #[.int .i64 k, .bool is, .int .i64 n, .string tx, .slice ao l1 q1, .slice ap l2 q2]] w (DpQ 0 w) := by
  obtain ⟨W0, hW0, hk0, hb0⟩ := one_v6 w k is n tx ao l1 q1 ap l2 q2
  have HW0 := Lib.hid hW0
  have HB0 := Lib.hid hb0
  obtain ⟨a0, a1, a2, a3, a4, a5⟩ := cells6 hk0
  obtain ⟨h1, h2⟩ := hk
  have e1 : (k == 4) = false := by simpa using h1
  have e2 : (k == 5) = false := by simpa using h2
  clear hW0 hb0 hk0 h1 h2
  go_enter Tryd.func10, Tryd.ntmps10
  go_upto_region 1 with (fail)
  rw [← HW0.out]
  go_wp2
  go_ret
  exact ⟨rfl, HB0.out⟩
set_option maxRecDepth 100000 in
set_option maxHeartbeats 1000000 in
theorem dp_4 (is : Bool) (m : Int) (tx : ByteArray) (ao : Option Addr) (q1 : Nat) (ap : Option Addr) (l2 q2 : Nat) (P : Nat → Prop) (xs : List JV) (w : World) (h : IsVs P w (.slice ao xs.length q1) xs) (hl : xs.length ≤ 1000000) (hd : depL xs ≤ 1000000)
    (HS : ∀ i (hi : i < xs.length) (W : World) (ca : List Value), Rep P W xs[i] ca → Calls Tryd.prog 10 #[.agg ca.toArray] W (DpQ (dep xs[i]) W)) :
    Calls Tryd.prog 10 #[.agg #[.int .i64 4, .bool is, .int .i64 m, .string tx, .slice ao xs.length q1, .slice ap l2 q2]] w (DpQ (depL xs + 1) w) := by
  obtain ⟨W0, hW0, hk0, hb0⟩ := one_v6 w 4 is m tx ao xs.length q1 ap l2 q2
  have HW0 := Lib.hid hW0
  have HB0 := Lib.hid hb0
  have H := Lib.hid (h.keep (Kep.of hb0))
  have HSS := Lib.hid HS
  obtain ⟨a0, a1, a2, a3, a4, a5⟩ := cells6 hk0
  obtain ⟨n, hn⟩ : ∃ n, n = xs.length := ⟨_, rfl⟩
  have HN : Hid (xs.length = n) := hn.symm
  rw [← hn] at a4 H ⊢ HW0
  have hnl : n ≤ 1000000 := by omega
  clear hW0 hb0 hk0 h HS hn hl
  go_enter Tryd.func10, Tryd.ntmps10
  go_upto_region 1 with (fail)
  rw [← HW0.out]
  go_wp2
  clear a0 a1 a2 a3 a4 a5
  go_loopw [3, 15] (fun dv iv wr => ∃ j : Nat, j ≤ n ∧ iv = .int .i64 j ∧ dv = .int .i64 (depL (xs.take j) : Nat) ∧ Hid (Below W0.heap.size W0 wr)) (fun _ iv _ => n - (intOf iv).toNat)
  case atStart => exact ⟨0, by omega, rfl, by simp [depL], Lib.hid (Below.refl _ _)⟩
  case round =>
    obtain ⟨j, hj, rfl, rfl, HB⟩ := hrel
    have hdl := depL_le (xs := xs) j
    by_cases hlt : j < n
    · have HX1 := Lib.hid (show j < xs.length by rw [HN.out]; exact hlt)
      obtain ⟨g1, o1, rfl, hg1, hat1⟩ := (H.out.keep (Kep.of HB.out)).at (by have := HX1.out; omega)
      have hj0 : (0 : Int) ≤ (j : Int) := by omega
      have hjl : (j : Int) < (n : Int) := by omega
      obtain ⟨ca, hca, hra⟩ := hat1 j HX1.out
      have HTK := Lib.hid (depL_take HX1.out)
      have hdj := dep_mem HX1.out
      obtain ⟨⟨k, is', nn, t, ixs, iks⟩, hx⟩ : ∃ x, xs[j]'HX1.out = x := ⟨_, rfl⟩
      have HCC := Lib.hid (fun W => HSS.out j HX1.out W)
      rw [hx] at hra HTK hdj HCC
      obtain ⟨ao', q1', ap', q2', rfl, _⟩ := rep_c6 hra
      obtain ⟨p0, p1, p2, p3, p4, p5⟩ := cs6 hca
      obtain ⟨W1, hW1, hk1, hb1⟩ := one_v6 wr k is' nn (mkS t) ao' ixs.length q1' ap' iks.length q2'
      have HW1 := Lib.hid hW1
      have HK1 := Lib.hid hk1
      have HB1 := Lib.hid (btr HB.out hb1)
      have HCS := Lib.hid (HCC.out W1 _ (Rep.keep (Kep.of hb1) _ hra))
      have hn1 : g1 ≠ wr.heap.size := by omega
      generalize dep (JV.mk k is' nn t ixs iks) = D at HCS HTK hdj
      unfold DpQ at HCS
      clear hat1 hca hra hx HCC hW1 hk1 hb1 HB
      go_upto_region 8 with (fail)
      rw [← HW1.out]
      clear p0 p1 p2 p3 p4 p5
      obtain ⟨p0, p1, p2, p3, p4, p5⟩ := cells6 HK1.out
      go_wp2_with fail
      (with_reducible refine HCS.out.mono ?_)
      rintro e w4 ⟨rfl, hb4⟩
      have HB4 := Lib.hid (btr HB1.out hb4)
      clear hb4 p0 p1 p2 p3 p4 p5
      go_wp2
      go_roundw
      case rel => exact ⟨j + 1, by omega, by go_num, by rw [HTK.out]; congr 1; omega, HB4⟩
      case measure => simp [intOf]; omega
    · have hjl : ¬ (j : Int) < (n : Int) := by omega
      have hjn : j = n := by omega
      have HF : Hid (depL (xs.take j) = depL xs) := by
        show _ = _
        rw [hjn, ← HN.out, List.take_of_length_le (Nat.le_refl _)]
      have HBF := Lib.hid (btr HB0.out HB.out)
      generalize depL (xs.take j) = D at HF hdl ⊢
      clear hjn HB
      go_wp2
      go_ret
      exact ⟨by rw [← HF.out]; simp, HBF.out⟩
set_option maxRecDepth 100000 in
set_option maxHeartbeats 1000000 in
theorem dp_5 (is : Bool) (m : Int) (tx : ByteArray) (ao : Option Addr) (q1 : Nat) (ap : Option Addr) (l2 q2 : Nat) (P : Nat → Prop) (xs : List JV) (w : World) (h : IsVs P w (.slice ao xs.length q1) xs) (hl : xs.length ≤ 1000000) (hd : depL xs ≤ 1000000)
    (HS : ∀ i (hi : i < xs.length) (W : World) (ca : List Value), Rep P W xs[i] ca → Calls Tryd.prog 10 #[.agg ca.toArray] W (DpQ (dep xs[i]) W)) :
    Calls Tryd.prog 10 #[.agg #[.int .i64 5, .bool is, .int .i64 m, .string tx, .slice ao xs.length q1, .slice ap l2 q2]] w (DpQ (depL xs + 1) w) := by
  obtain ⟨W0, hW0, hk0, hb0⟩ := one_v6 w 5 is m tx ao xs.length q1 ap l2 q2
  have HW0 := Lib.hid hW0
  have HB0 := Lib.hid hb0
  have H := Lib.hid (h.keep (Kep.of hb0))
  have HSS := Lib.hid HS
  obtain ⟨a0, a1, a2, a3, a4, a5⟩ := cells6 hk0
  obtain ⟨n, hn⟩ : ∃ n, n = xs.length := ⟨_, rfl⟩
  have HN : Hid (xs.length = n) := hn.symm
  rw [← hn] at a4 H ⊢ HW0
  have hnl : n ≤ 1000000 := by omega
  clear hW0 hb0 hk0 h HS hn hl
  go_enter Tryd.func10, Tryd.ntmps10
  go_upto_region 1 with (fail)
  rw [← HW0.out]
  go_wp2
  clear a0 a1 a2 a3 a4 a5
  go_loopw [3, 15] (fun dv iv wr => ∃ j : Nat, j ≤ n ∧ iv = .int .i64 j ∧ dv = .int .i64 (depL (xs.take j) : Nat) ∧ Hid (Below W0.heap.size W0 wr)) (fun _ iv _ => n - (intOf iv).toNat)
  case atStart => exact ⟨0, by omega, rfl, by simp [depL], Lib.hid (Below.refl _ _)⟩
  case round =>
    obtain ⟨j, hj, rfl, rfl, HB⟩ := hrel
    have hdl := depL_le (xs := xs) j
    by_cases hlt : j < n
    · have HX1 := Lib.hid (show j < xs.length by rw [HN.out]; exact hlt)
      obtain ⟨g1, o1, rfl, hg1, hat1⟩ := (H.out.keep (Kep.of HB.out)).at (by have := HX1.out; omega)
      have hj0 : (0 : Int) ≤ (j : Int) := by omega
      have hjl : (j : Int) < (n : Int) := by omega
      obtain ⟨ca, hca, hra⟩ := hat1 j HX1.out
      have HTK := Lib.hid (depL_take HX1.out)
      have hdj := dep_mem HX1.out
      obtain ⟨⟨k, is', nn, t, ixs, iks⟩, hx⟩ : ∃ x, xs[j]'HX1.out = x := ⟨_, rfl⟩
      have HCC := Lib.hid (fun W => HSS.out j HX1.out W)
      rw [hx] at hra HTK hdj HCC
      obtain ⟨ao', q1', ap', q2', rfl, _⟩ := rep_c6 hra
      obtain ⟨p0, p1, p2, p3, p4, p5⟩ := cs6 hca
      obtain ⟨W1, hW1, hk1, hb1⟩ := one_v6 wr k is' nn (mkS t) ao' ixs.length q1' ap' iks.length q2'
      have HW1 := Lib.hid hW1
      have HK1 := Lib.hid hk1
      have HB1 := Lib.hid (btr HB.out hb1)
      have HCS := Lib.hid (HCC.out W1 _ (Rep.keep (Kep.of hb1) _ hra))
      have hn1 : g1 ≠ wr.heap.size := by omega
      generalize dep (JV.mk k is' nn t ixs iks) = D at HCS HTK hdj
      unfold DpQ at HCS
      clear hat1 hca hra hx HCC hW1 hk1 hb1 HB
      go_upto_region 8 with (fail)
      rw [← HW1.out]
      clear p0 p1 p2 p3 p4 p5
      obtain ⟨p0, p1, p2, p3, p4, p5⟩ := cells6 HK1.out
      go_wp2_with fail
      (with_reducible refine HCS.out.mono ?_)
      rintro e w4 ⟨rfl, hb4⟩
      have HB4 := Lib.hid (btr HB1.out hb4)
      clear hb4 p0 p1 p2 p3 p4 p5
      go_wp2
      go_roundw
      case rel => exact ⟨j + 1, by omega, by go_num, by rw [HTK.out]; congr 1; omega, HB4⟩
      case measure => simp [intOf]; omega
    · have hjl : ¬ (j : Int) < (n : Int) := by omega
      have hjn : j = n := by omega
      have HF : Hid (depL (xs.take j) = depL xs) := by
        show _ = _
        rw [hjn, ← HN.out, List.take_of_length_le (Nat.le_refl _)]
      have HBF := Lib.hid (btr HB0.out HB.out)
      generalize depL (xs.take j) = D at HF hdl ⊢
      clear hjn HB
      go_wp2
      go_ret
      exact ⟨by rw [← HF.out]; simp, HBF.out⟩
theorem depth_all : ∀ (n : Nat) (x : JV), dep x ≤ n → dep x ≤ 1000000 → wid x ≤ 1000000 → ∀ (P : Nat → Prop) (W : World) (ca : List Value), Rep P W x ca → Calls Tryd.prog 10 #[.agg ca.toArray] W (DpQ (dep x) W)
  | n, .mk k is m t xs ks, hd, hd2, hw, P, W, ca, ha => by
    obtain ⟨ao, q1, ap, q2, rfl, hka, hla⟩ := rep_c6 ha
    rw [wid] at hw
    by_cases hk : k = 4 ∨ k = 5
    · rw [dep, if_pos hk] at hd hd2 ⊢
      obtain ⟨n', rfl⟩ : ∃ n', n = n' + 1 := ⟨n - 1, by omega⟩
      have HS : ∀ i (hi : i < xs.length) (V : World) (ca : List Value), Rep P V xs[i] ca → Calls Tryd.prog 10 #[.agg ca.toArray] V (DpQ (dep xs[i]) V) := fun i hi V ca hra =>
        depth_all n' xs[i] (by have := dep_mem hi; omega) (by have := dep_mem hi; omega) (by have := wid_mem hi; omega) P V ca hra
      rcases hk with rfl | rfl
      · exact dp_4 is m (mkS t) ao q1 ap ks.length q2 P xs W (isvs hla) (by omega) (by omega) HS
      · exact dp_5 is m (mkS t) ao q1 ap ks.length q2 P xs W (isvs hla) (by omega) (by omega) HS
    · rw [dep, if_neg hk]
      exact dp_o k is m (mkS t) ao xs.length q1 ap ks.length q2 W (by omega)
theorem Depth_c {P : Nat → Prop} {x : JV} {ca : List Value} {w : World} (ha : Rep P w x ca) (hw : wid x ≤ 1000000) (hd : dep x ≤ 1000000) : Calls Tryd.prog 10 #[.agg ca.toArray] w (DpQ (dep x) w) :=
  depth_all (dep x) x (Nat.le_refl _) hd hw P w ca ha
end Go.Proofs.YtkphainopofejaaDoor.Jv
namespace Go.Proofs.YtkphainopofejaaDoor.Jv
open Jt
open Go.RowKit Go.ChangeMaps Go.MapKept Go.WideMaps
set_option linter.unusedSimpArgs false
set_option linter.unusedVariables false

theorem rdk_cap {P : Nat → Prop} {w : World} {ao : Option Addr} {n q : Nat} {ks : List (List UInt8)} (h : RdK P w (.slice ao n q) ks) : ks.length ≤ q := by
  obtain ⟨ao', cap, e, hc, _⟩ := h
  injection e with e1 e2 e3
  subst e3
  exact hc
theorem nodup_ne {ks : List (List UInt8)} (h : ks.Nodup) {i j : Nat} (hi : i < ks.length) (hj : j < ks.length) (hij : i < j) : ((mkS ks[i]).toList == (mkS ks[j]).toList) = false := by
  rw [mkS_beq, beq_eq_false_iff_ne]
  intro e
  have := (List.getElem_inj h).1 e
  omega
set_option maxRecDepth 100000 in
set_option maxHeartbeats 2000000 in
theorem on_5 (is : Bool) (m : Int) (tx : ByteArray) (ao : Option Addr) (q1 : Nat) (ap : Option Addr) (q2 : Nat) (P : Nat → Prop) (xs : List JV) (ks : List (List UInt8)) (w : World) (h : IsVs P w (.slice ao xs.length q1) xs) (hkk : RdK P w (.slice ap ks.length q2) ks) (hl : xs.length ≤ 1000000) (hl2 : ks.length ≤ 1000000) (hnd : ks.Nodup) (h5 : ks.length = xs.length)
    (HS : ∀ i (hi : i < xs.length) (W : World) (ca : List Value), Rep P W xs[i] ca → Calls Tryd.prog 11 #[.agg ca.toArray] W (SmQ true W)) :
    Calls Tryd.prog 11 #[.agg #[.int .i64 5, .bool is, .int .i64 m, .string tx, .slice ao xs.length q1, .slice ap ks.length q2]] w (SmQ true w) := by
  obtain ⟨W0, hW0, hk0, hb0⟩ := one_v6 w 5 is m tx ao xs.length q1 ap ks.length q2
  have HW0 := Lib.hid hW0
  have HB0 := Lib.hid hb0
  have H := Lib.hid (h.keep (Kep.of hb0))
  have HK := Lib.hid (RdK.keep (Kep.of hb0) hkk)
  have HC := Lib.hid (rdk_cap hkk)
  have HND := Lib.hid hnd
  have HSS := Lib.hid HS
  obtain ⟨a0, a1, a2, a3, a4, a5⟩ := cells6 hk0
  have e1 : ((ks.length : Int) == (xs.length : Int)) = true := by rw [h5]; simp
  have e2 : ((ks.length : Int) != (xs.length : Int)) = false := by rw [bne, e1]; rfl
  clear h5
  obtain ⟨n, hn⟩ : ∃ n, n = xs.length := ⟨_, rfl⟩
  obtain ⟨c, hc⟩ : ∃ c, c = ks.length := ⟨_, rfl⟩
  have HN : Hid (xs.length = n ∧ ks.length = c) := ⟨hn.symm, hc.symm⟩
  rw [← hn] at a4 H HW0 e1 e2 ⊢
  rw [← hc] at a5 HK HC HW0 e1 e2 ⊢
  have hnl : n ≤ 1000000 := by omega
  have hcl : c ≤ 1000000 := by omega
  clear hW0 hb0 hk0 h hkk hnd HS hn hc hl hl2
  go_enter Tryd.func11, Tryd.ntmps11
  go_upto_region 1 with (fail)
  rw [← HW0.out]
  go_wp2
  clear e1 e2
  go_loop [24] (fun iv => ∃ j : Nat, j ≤ c ∧ iv = .int .i64 j) (fun iv => c - (intOf iv).toNat)
  case atStart => exact ⟨0, by omega, rfl⟩
  case round =>
    obtain ⟨j, hj, rfl⟩ := hrel
    by_cases hlt : j < c
    · have HX1 := Lib.hid (show j < ks.length by rw [HN.out.2]; exact hlt)
      obtain ⟨g1, o1, rfl, hg1, hat1⟩ := rdk_at HK.out (by have := HX1.out; omega)
      have hj0 : (0 : Int) ≤ (j : Int) := by omega
      have hjl : (j : Int) < (c : Int) := by omega
      have hjq : (j : Int) ≤ (q2 : Int) := by have := HC.out; have := HN.out.2; omega
      have p0 := hat1 j HX1.out
      have HAT := Lib.hid hat1
      clear hat1
      go_wp2
      clear p0
      go_loop [34] (fun iv => ∃ i : Nat, i ≤ j ∧ iv = .int .i64 i) (fun iv => j - (intOf iv).toNat)
      case atStart => exact ⟨0, by omega, rfl⟩
      case round =>
        obtain ⟨i, hi, rfl⟩ := hrel
        by_cases hli : i < j
        · have HX2 := Lib.hid (show i < ks.length by rw [HN.out.2]; omega)
          have hi0 : (0 : Int) ≤ (i : Int) := by omega
          have hil : (i : Int) < (j : Int) := by omega
          have p0 := HAT.out i HX2.out
          have hne := nodup_ne HND.out HX2.out HX1.out hli
          go_wp2
          go_round
          case rel => exact ⟨i + 1, by omega, by go_num⟩
          case measure => simp [intOf]; omega
        · have hil : ¬ (i : Int) < (j : Int) := by omega
          go_wp2
          go_round
          case rel => exact ⟨j + 1, by omega, by go_num⟩
          case measure => simp [intOf]; omega
    · have hjl : ¬ (j : Int) < (c : Int) := by omega
      go_wp2
      clear a0 a1 a2 a3 a4 a5
      go_loopw [46] (fun iv wr => ∃ j : Nat, j ≤ n ∧ iv = .int .i64 j ∧ Hid (Below W0.heap.size W0 wr)) (fun iv _ => n - (intOf iv).toNat)
      case atStart => exact ⟨0, by omega, rfl, Lib.hid (Below.refl _ _)⟩
      case round =>
        rename World => wr
        obtain ⟨i, hi, rfl, HB⟩ := hrel
        by_cases hli : i < n
        · have HX1 := Lib.hid (show i < xs.length by rw [HN.out.1]; exact hli)
          obtain ⟨g1, o1, rfl, hg1, hat1⟩ := (H.out.keep (Kep.of HB.out)).at (by have := HX1.out; omega)
          have hi0 : (0 : Int) ≤ (i : Int) := by omega
          have hil : (i : Int) < (n : Int) := by omega
          obtain ⟨ca, hca, hra⟩ := hat1 i HX1.out
          obtain ⟨⟨k2, is', nn, t, ixs, iks⟩, hx⟩ : ∃ x, xs[i]'HX1.out = x := ⟨_, rfl⟩
          have HCC := Lib.hid (fun W => HSS.out i HX1.out W)
          rw [hx] at hra HCC
          obtain ⟨ao', q1', ap', q2', rfl, _⟩ := rep_c6 hra
          obtain ⟨p0, p1, p2, p3, p4, p5⟩ := cs6 hca
          obtain ⟨W1, hW1, hk1, hb1⟩ := one_v6 wr k2 is' nn (mkS t) ao' ixs.length q1' ap' iks.length q2'
          have HW1 := Lib.hid hW1
          have HK1 := Lib.hid hk1
          have HB1 := Lib.hid (btr HB.out hb1)
          have HCS := Lib.hid (HCC.out W1 _ (Rep.keep (Kep.of hb1) _ hra))
          have hn1 : g1 ≠ wr.heap.size := by omega
          unfold SmQ at HCS
          clear hat1 hca hra hx HCC hW1 hk1 hb1 HB
          go_upto_region 16 with (fail)
          rw [← HW1.out]
          clear p0 p1 p2 p3 p4 p5
          obtain ⟨p0, p1, p2, p3, p4, p5⟩ := cells6 HK1.out
          go_wp2_with fail
          (with_reducible refine HCS.out.mono ?_)
          rintro e w4 ⟨rfl, hb4⟩
          have HB4 := Lib.hid (btr HB1.out hb4)
          clear hb4 p0 p1 p2 p3 p4 p5
          go_wp2
          go_roundw
          case rel => exact ⟨i + 1, by omega, by go_num, HB4⟩
          case measure => simp [intOf]; omega
        · have hil : ¬ (i : Int) < (n : Int) := by omega
          have HBF := Lib.hid (btr HB0.out HB.out)
          clear HB
          go_wp2
          go_ret
          exact ⟨rfl, HBF.out⟩
set_option maxRecDepth 100000 in
set_option maxHeartbeats 2000000 in
theorem on_o (k : Int) (is : Bool) (m : Int) (tx : ByteArray) (ao : Option Addr) (q1 : Nat) (ap : Option Addr) (q2 : Nat) (P : Nat → Prop) (xs : List JV) (ks : List (List UInt8)) (w : World) (h : IsVs P w (.slice ao xs.length q1) xs) (hkk : RdK P w (.slice ap ks.length q2) ks) (hl : xs.length ≤ 1000000) (hl2 : ks.length ≤ 1000000) (hnd : ks.Nodup) (hk : k ≠ 5)
    (HS : ∀ i (hi : i < xs.length) (W : World) (ca : List Value), Rep P W xs[i] ca → Calls Tryd.prog 11 #[.agg ca.toArray] W (SmQ true W)) :
    Calls Tryd.prog 11 #[.agg #[.int .i64 k, .bool is, .int .i64 m, .string tx, .slice ao xs.length q1, .slice ap ks.length q2]] w (SmQ true w) := by
  obtain ⟨W0, hW0, hk0, hb0⟩ := one_v6 w k is m tx ao xs.length q1 ap ks.length q2
  have HW0 := Lib.hid hW0
  have HB0 := Lib.hid hb0
  have H := Lib.hid (h.keep (Kep.of hb0))
  have HK := Lib.hid (RdK.keep (Kep.of hb0) hkk)
  have HC := Lib.hid (rdk_cap hkk)
  have HND := Lib.hid hnd
  have HSS := Lib.hid HS
  obtain ⟨a0, a1, a2, a3, a4, a5⟩ := cells6 hk0
  have e1 : (k == 5) = false := by simpa using hk
  clear hk
  obtain ⟨n, hn⟩ : ∃ n, n = xs.length := ⟨_, rfl⟩
  obtain ⟨c, hc⟩ : ∃ c, c = ks.length := ⟨_, rfl⟩
  have HN : Hid (xs.length = n ∧ ks.length = c) := ⟨hn.symm, hc.symm⟩
  rw [← hn] at a4 H HW0  ⊢
  rw [← hc] at a5 HK HC HW0  ⊢
  have hnl : n ≤ 1000000 := by omega
  have hcl : c ≤ 1000000 := by omega
  clear hW0 hb0 hk0 h hkk hnd HS hn hc hl hl2
  go_enter Tryd.func11, Tryd.ntmps11
  go_upto_region 1 with (fail)
  rw [← HW0.out]
  go_wp2
  clear e1
  go_loop [24] (fun iv => ∃ j : Nat, j ≤ c ∧ iv = .int .i64 j) (fun iv => c - (intOf iv).toNat)
  case atStart => exact ⟨0, by omega, rfl⟩
  case round =>
    obtain ⟨j, hj, rfl⟩ := hrel
    by_cases hlt : j < c
    · have HX1 := Lib.hid (show j < ks.length by rw [HN.out.2]; exact hlt)
      obtain ⟨g1, o1, rfl, hg1, hat1⟩ := rdk_at HK.out (by have := HX1.out; omega)
      have hj0 : (0 : Int) ≤ (j : Int) := by omega
      have hjl : (j : Int) < (c : Int) := by omega
      have hjq : (j : Int) ≤ (q2 : Int) := by have := HC.out; have := HN.out.2; omega
      have p0 := hat1 j HX1.out
      have HAT := Lib.hid hat1
      clear hat1
      go_wp2
      clear p0
      go_loop [34] (fun iv => ∃ i : Nat, i ≤ j ∧ iv = .int .i64 i) (fun iv => j - (intOf iv).toNat)
      case atStart => exact ⟨0, by omega, rfl⟩
      case round =>
        obtain ⟨i, hi, rfl⟩ := hrel
        by_cases hli : i < j
        · have HX2 := Lib.hid (show i < ks.length by rw [HN.out.2]; omega)
          have hi0 : (0 : Int) ≤ (i : Int) := by omega
          have hil : (i : Int) < (j : Int) := by omega
          have p0 := HAT.out i HX2.out
          have hne := nodup_ne HND.out HX2.out HX1.out hli
          go_wp2
          go_round
          case rel => exact ⟨i + 1, by omega, by go_num⟩
          case measure => simp [intOf]; omega
        · have hil : ¬ (i : Int) < (j : Int) := by omega
          go_wp2
          go_round
          case rel => exact ⟨j + 1, by omega, by go_num⟩
          case measure => simp [intOf]; omega
    · have hjl : ¬ (j : Int) < (c : Int) := by omega
      go_wp2
      clear a0 a1 a2 a3 a4 a5
      go_loopw [46] (fun iv wr => ∃ j : Nat, j ≤ n ∧ iv = .int .i64 j ∧ Hid (Below W0.heap.size W0 wr)) (fun iv _ => n - (intOf iv).toNat)
      case atStart => exact ⟨0, by omega, rfl, Lib.hid (Below.refl _ _)⟩
      case round =>
        rename World => wr
        obtain ⟨i, hi, rfl, HB⟩ := hrel
        by_cases hli : i < n
        · have HX1 := Lib.hid (show i < xs.length by rw [HN.out.1]; exact hli)
          obtain ⟨g1, o1, rfl, hg1, hat1⟩ := (H.out.keep (Kep.of HB.out)).at (by have := HX1.out; omega)
          have hi0 : (0 : Int) ≤ (i : Int) := by omega
          have hil : (i : Int) < (n : Int) := by omega
          obtain ⟨ca, hca, hra⟩ := hat1 i HX1.out
          obtain ⟨⟨k2, is', nn, t, ixs, iks⟩, hx⟩ : ∃ x, xs[i]'HX1.out = x := ⟨_, rfl⟩
          have HCC := Lib.hid (fun W => HSS.out i HX1.out W)
          rw [hx] at hra HCC
          obtain ⟨ao', q1', ap', q2', rfl, _⟩ := rep_c6 hra
          obtain ⟨p0, p1, p2, p3, p4, p5⟩ := cs6 hca
          obtain ⟨W1, hW1, hk1, hb1⟩ := one_v6 wr k2 is' nn (mkS t) ao' ixs.length q1' ap' iks.length q2'
          have HW1 := Lib.hid hW1
          have HK1 := Lib.hid hk1
          have HB1 := Lib.hid (btr HB.out hb1)
          have HCS := Lib.hid (HCC.out W1 _ (Rep.keep (Kep.of hb1) _ hra))
          have hn1 : g1 ≠ wr.heap.size := by omega
          unfold SmQ at HCS
          clear hat1 hca hra hx HCC hW1 hk1 hb1 HB
          go_upto_region 16 with (fail)
          rw [← HW1.out]
          clear p0 p1 p2 p3 p4 p5
          obtain ⟨p0, p1, p2, p3, p4, p5⟩ := cells6 HK1.out
          go_wp2_with fail
          (with_reducible refine HCS.out.mono ?_)
          rintro e w4 ⟨rfl, hb4⟩
          have HB4 := Lib.hid (btr HB1.out hb4)
          clear hb4 p0 p1 p2 p3 p4 p5
          go_wp2
          go_roundw
          case rel => exact ⟨i + 1, by omega, by go_num, HB4⟩
          case measure => simp [intOf]; omega
        · have hil : ¬ (i : Int) < (n : Int) := by omega
          have HBF := Lib.hid (btr HB0.out HB.out)
          clear HB
          go_wp2
          go_ret
          exact ⟨rfl, HBF.out⟩
theorem once_all : ∀ (n : Nat) (x : JV), SizeOf.sizeOf x ≤ n → onc x → wid x ≤ 1000000 → ∀ (P : Nat → Prop) (W : World) (ca : List Value), Rep P W x ca → Calls Tryd.prog 11 #[.agg ca.toArray] W (SmQ true W)
  | n, .mk k is m t xs ks, hd, ho, hw, P, W, ca, ha => by
    obtain ⟨ao, q1, ap, q2, rfl, hka, hla⟩ := rep_c6 ha
    rw [wid] at hw
    rw [onc] at ho
    obtain ⟨n', rfl⟩ : ∃ n', n = n' + 1 := ⟨n - 1, by simp at hd; omega⟩
    have HS : ∀ i (hi : i < xs.length) (V : World) (ca : List Value), Rep P V xs[i] ca → Calls Tryd.prog 11 #[.agg ca.toArray] V (SmQ true V) := fun i hi V ca hra =>
      once_all n' xs[i] (by have := List.sizeOf_lt_of_mem (List.getElem_mem hi); simp at hd; omega) (onc_mem hi ho.2.2) (by have := wid_mem hi; omega) P V ca hra
    by_cases hk : k = 5
    · have h5 := ho.1 hk
      subst hk
      exact on_5 is m (mkS t) ao q1 ap q2 P xs ks W (isvs hla) hka (by omega) (by omega) ho.2.1 h5 HS
    · exact on_o k is m (mkS t) ao q1 ap q2 P xs ks W (isvs hla) hka (by omega) (by omega) ho.2.1 hk HS
theorem once_c {P : Nat → Prop} {x : JV} {ca : List Value} {w : World} (ha : Rep P w x ca) (ho : onc x) (hw : wid x ≤ 1000000) : Calls Tryd.prog 11 #[.agg ca.toArray] w (SmQ true w) :=
  once_all (SizeOf.sizeOf x) x (Nat.le_refl _) ho hw P w ca ha
end Go.Proofs.YtkphainopofejaaDoor.Jv
namespace Go.Proofs.YtkphainopofejaaDoor.Jv
open Jt
open Go.RowKit Go.ChangeMaps Go.MapKept Go.WideMaps
set_option linter.unusedSimpArgs false
set_option linter.unusedVariables false

def exL : List UInt8 := [123, 34, 97, 34, 58, 91, 49, 44, 123, 125, 93, 125]
theorem ex1 : (parseP exL 3).2.2 = 0 := by decide +kernel
theorem ex2 : dep (parseP exL 3).1 = 3 := by decide +kernel
theorem ex3 : (parseP exL 2).2.2 = 4 := by decide +kernel
theorem ex4 : (parseP exL 2).2.1 = 8 := by decide +kernel
set_option maxRecDepth 100000 in
set_option maxHeartbeats 1000000 in
theorem awake_c (w : World) (hE : Env w) : Calls Tryd.prog 9 #[] w fun e w' => e = .returned (.bool true) ∧ Below w.heap.size w w' := by
  have HE := Lib.hid hE
  have HP1 := Lib.hid (Parse_c ⟨#[123, 34, 97, 34, 58, 91, 49, 44, 123, 125, 93, 125]⟩ 3 w hE (by decide))
  rw [show (ByteArray.mk #[123, 34, 97, 34, 58, 91, 49, 44, 123, 125, 93, 125]).data.toList = exL from rfl] at HP1
  have hwd := parse_wid exL 3
  have hlx : exL.length = 12 := rfl
  rw [hlx] at hwd
  unfold PaQ at HP1
  rw [ex1] at HP1
  clear hE hlx
  go_enter Tryd.func9, Tryd.ntmps9
  go_wp2_with fail
  (with_reducible refine HP1.out.mono ?_)
  rintro e w1 ⟨xk, xb, xn, xt, xo, xl, xq, yo, yl, yq, rfl, hrep, hb1⟩
  obtain ⟨W1, hW1, hk1, hc1⟩ := one_v6 w1 xk xb xn xt xo xl xq yo yl yq
  have HW1 := Lib.hid hW1
  have HK1 := Lib.hid hk1
  have HB1 := Lib.hid (btr hb1 hc1)
  have HR1 := Lib.hid (Rep.keep (Kep.of hc1) _ hrep)
  have HP2 := Lib.hid (Parse_c ⟨#[123, 34, 97, 34, 58, 91, 49, 44, 123, 125, 93, 125]⟩ 2 W1 (HE.out.go HB1.out) (by decide))
  rw [show (ByteArray.mk #[123, 34, 97, 34, 58, 91, 49, 44, 123, 125, 93, 125]).data.toList = exL from rfl] at HP2
  unfold PaQ at HP2
  rw [ex3, ex4] at HP2
  have HWD := Lib.hid hwd
  clear hrep hb1 hW1 hk1 hc1 hwd HP1
  go_upto_region 2 with (fail)
  rw [← HW1.out]
  go_wp2_with fail
  (with_reducible refine HP2.out.mono ?_)
  rintro e w2 ⟨zk, zb, zn, zt, zo, zl, zq, uo, ul, uq, rfl, -, hb2⟩
  obtain ⟨W2, hW2, hk2, hc2⟩ := one_v6 w2 zk zb zn zt zo zl zq uo ul uq
  have HW2 := Lib.hid hW2
  have hbb := btr hb2 hc2
  have HB2 := Lib.hid (btr HB1.out hbb)
  have HR2 := Lib.hid (Rep.keep (Kep.of hbb) _ HR1.out)
  have HK2 : Hid (W2.heap[w1.heap.size]? = some (obV xk xb xn xt xo xl xq yo yl yq)) := (hbb.block _ (Array.getElem?_eq_some_iff.1 HK1.out).1).trans HK1.out
  have HD := Lib.hid (Depth_c HR2.out (by have := HWD.out; omega) (by rw [ex2]; decide))
  rw [ex2] at HD
  unfold DpQ at HD
  obtain ⟨a0, a1, a2, a3, a4, a5⟩ := cells6 HK2.out
  clear hb2 hW2 hk2 hc2 hbb HP2
  go_upto_region 3 with (fail)
  rw [← HW2.out]
  go_wp2_with fail
  (with_reducible refine HD.out.mono ?_)
  rintro e w3 ⟨rfl, hb3⟩
  have HB3 := Lib.hid (btr HB2.out hb3)
  clear hb3 a0 a1 a2 a3 a4 a5
  go_wp2
  go_ret
  exact ⟨rfl, HB3.out⟩
end Go.Proofs.YtkphainopofejaaDoor.Jv
