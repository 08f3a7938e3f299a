/- Contracts and plain mathematics of some packages' functions, laid together; conditions as each one says. -/
import Derived.Test.YtpgllcdcpdeicaaGreatDoorJvGg
import Derived.Deep.AppendLies
import Derived.Deep.RegionLaw
namespace Go.Proofs.YtpgllcdcpdeicaaGreatDoor.Jv
open Jt
open Go.RowKit Go.ChangeMaps Go.MapKept Go.WideMaps
set_option linter.unusedSimpArgs false
set_option linter.unusedVariables false

mutual
/-- how long its lists are at most -/
def wid : JV → Nat
  | .mk _ _ _ _ xs ks => max (max xs.length ks.length) (widL xs)
def widL : List JV → Nat
  | [] => 0
  | x :: xs => max (wid x) (widL xs)
end
theorem widL_snoc (xs : List JV) (x : JV) : widL (xs ++ [x]) = max (widL xs) (wid x) := by
  induction xs with
  | nil => simp [widL]
  | cons y ys ih => rw [List.cons_append, widL, ih, widL]; omega
theorem wid_mem : ∀ {xs : List JV} {i : Nat} (hi : i < xs.length), wid xs[i] ≤ widL xs
  | x :: xs, 0, _ => by rw [widL]; simp; omega
  | x :: xs, i + 1, hi => by
    have := wid_mem (xs := xs) (i := i) (by simpa using hi)
    rw [widL]; simp only [List.getElem_cons_succ]; omega
theorem dep_mem : ∀ {xs : List JV} {i : Nat} (hi : i < xs.length), dep xs[i] ≤ depL xs
  | x :: xs, 0, _ => by rw [depL]; simp; omega
  | x :: xs, i + 1, hi => by
    have := dep_mem (xs := xs) (i := i) (by simpa using hi)
    rw [depL]; simp only [List.getElem_cons_succ]; omega
theorem onc_mem : ∀ {xs : List JV} {i : Nat} (hi : i < xs.length), oncL xs → onc xs[i]
  | x :: xs, 0, _, h => by rw [oncL] at h; exact h.1
  | x :: xs, i + 1, hi, h => by rw [oncL] at h; exact onc_mem (xs := xs) (i := i) (by simpa using hi) h.2
/-- what was read is not wider than the text is long -/
theorem read_wid (l : List UInt8) : ∀ (f : Nat),
    (∀ (room : Int) (t : Tok) (r : JV × Nat), t.b ≤ l.length → pv l f room t = .ok r → wid r.1 ≤ l.length) ∧
    (∀ (o : Bool) (room : Int) (ks : List (List UInt8)) (xs : List JV) (t : Tok) (r : JV × Nat), t.b ≤ l.length → xs.length ≤ t.b → ks.length ≤ xs.length → widL xs ≤ l.length → pl l f o room ks xs t = .ok r → wid r.1 ≤ l.length) := by
  intro f
  induction f with
  | zero =>
    refine ⟨?_, ?_⟩
    · intro room t r _ h; rw [pv] at h; cases h
    · intro o room ks xs t r _ _ _ _ h; rw [pl] at h; cases h
  | succ f ih =>
    refine ⟨?_, ?_⟩
    · intro room t r ht h
      rw [pv] at h
      by_cases h1 : t.k = 11
      · rw [if_pos h1] at h; cases h; simp [zV, wid, widL]
      rw [if_neg h1] at h
      by_cases h2 : t.k = 9 ∨ t.k = 10
      · rw [if_pos h2] at h; cases h; simp [wid, widL]
      rw [if_neg h2] at h
      by_cases h3 : t.k = 8
      · rw [if_pos h3] at h; cases h; simp [wid, widL]
      rw [if_neg h3] at h
      by_cases h4 : t.k = 7
      · rw [if_pos h4] at h; cases h; simp [wid, widL]
      rw [if_neg h4] at h
      by_cases h5 : t.k = 1 ∨ t.k = 3
      · rw [if_pos h5] at h
        by_cases h6 : room < 1
        · rw [if_pos h6] at h; cases h
        rw [if_neg h6] at h
        cases hx : nx l t.b with
        | error e => rw [hx] at h; cases h
        | ok u =>
          rw [hx] at h; dsimp only at h
          have hu := nx_ok ht hx
          by_cases h7 : u.k = lastK (t.k == 1)
          · rw [if_pos h7] at h; cases h; simp [wid, widL]
          · rw [if_neg h7] at h
            exact ih.2 (t.k == 1) (room - 1) [] [] u r hu.2 (by simp) (by simp) (by simp [widL]) h
      · rw [if_neg h5] at h; cases h
    · intro o room ks xs t r ht hx hk hw h
      rw [pl_step] at h
      cases hi : itP l f o room ks t with
      | error e => rw [hi] at h; cases h
      | ok q =>
        rw [hi] at h; dsimp only at h
        obtain ⟨i1, i2, i3, i4⟩ := itP_ok ht hi
        have hwq : wid q.2.1 ≤ l.length := by
          unfold itP at hi
          cases o with
          | false =>
            rw [if_neg (by simp)] at hi
            dsimp only at hi
            cases hv : pv l f room t with
            | error e => rw [hv] at hi; cases hi
            | ok z => rw [hv] at hi; cases hi; exact ih.1 room t z ht hv
          | true =>
            rw [if_pos rfl] at hi
            cases hkk : keyP l ks t with
            | error e => rw [hkk] at hi; cases hi
            | ok u =>
              rw [hkk] at hi
              dsimp only at hi
              cases hv : pv l f room u with
              | error e => rw [hv] at hi; cases hi
              | ok z => rw [hv] at hi; cases hi; exact ih.1 room u z (keyP_ok ht hkk).2.1 hv
        have hkl : q.1.length ≤ xs.length + 1 := by
          cases o with
          | false => rw [i4 rfl]; omega
          | true => rw [i3 rfl]; omega
        cases hb : bhP l o q.2.2 with
        | error e => rw [hb] at h; cases h
        | ok c =>
          rw [hb] at h
          cases c with
          | inl b =>
            dsimp only at h
            cases h
            have hbb := bhP_end i2 hb
            show wid (.mk (kndV o) false 0 [] (xs ++ [q.2.1]) q.1) ≤ _
            rw [wid, widL_snoc, List.length_append]
            simp only [List.length_cons, List.length_nil]
            omega
          | inr t' =>
            dsimp only at h
            have hbb := bhP_more i2 hb
            refine ih.2 o room _ _ t' r hbb.2 ?_ ?_ ?_ h
            · rw [List.length_append]; simp; omega
            · rw [List.length_append]; simpa using hkl
            · rw [widL_snoc]; omega
theorem whole_wid {l : List UInt8} {room : Int} {v : JV} (h : whole l room = .ok v) : wid v ≤ l.length := by
  rw [whP_eq] at h
  unfold whP at h
  cases hx : nx l 0 with
  | error e => rw [hx] at h; cases h
  | ok t =>
    rw [hx] at h; dsimp only at h
    cases hv : pv l (2 * l.length + 1) room t with
    | error e => rw [hv] at h; cases h
    | ok r =>
      rw [hv] at h; dsimp only at h
      have hw := (read_wid l _).1 room t r (nx_ok (Nat.zero_le _) hx).2 hv
      cases hy : nx l r.2 with
      | error e =>
        rw [hy] at h; dsimp only at h
        by_cases h6 : e.2 = 6
        · rw [if_pos h6] at h; cases h; exact hw
        · rw [if_neg h6] at h; cases h
      | ok u => rw [hy] at h; cases h
theorem parse_wid (l : List UInt8) (d : Int) : wid (parseP l d).1 ≤ l.length := by
  unfold parseP
  cases hx : whole l (min d 16) with
  | error e => simp [zV, wid, widL]
  | ok v => exact whole_wid hx
mutual
/-- are two the same, in what their kind has? -/
def smJ : JV → JV → Bool
  | .mk k is n t xs ks, .mk k' is' n' t' xs' ks' => if k ≠ k' then false else if k = 1 then is == is' else if k = 2 then n == n' else if k = 3 then t == t' else if k = 5 then (ks == ks' && smL xs xs') else if k = 4 then smL xs xs' else true
def smL : List JV → List JV → Bool
  | [], [] => true
  | x :: xs, y :: ys => smJ x y && smL xs ys
  | _, _ => false
end
mutual
theorem smJ_refl : ∀ x : JV, smJ x x = true
  | .mk k is n t xs ks => by
    rw [smJ]
    rw [if_neg (by simp)]
    have := smL_refl xs
    (repeat' split) <;> simp [this]
theorem smL_refl : ∀ xs : List JV, smL xs xs = true
  | [] => by rw [smL]
  | x :: xs => by rw [smL, smJ_refl x, smL_refl xs]; rfl
end
theorem smL_len : ∀ {xs ys : List JV}, xs.length ≠ ys.length → smL xs ys = false
  | [], [], h => absurd rfl h
  | [], _ :: _, _ => by simp [smL]
  | _ :: _, [], _ => by simp [smL]
  | x :: xs, y :: ys, h => by rw [smL, smL_len (xs := xs) (ys := ys) (by simpa using h), Bool.and_false]
theorem smL_snoc : ∀ {xs ys : List JV} (x y : JV), xs.length = ys.length → smL (xs ++ [x]) (ys ++ [y]) = (smL xs ys && smJ x y)
  | [], [], x, y, _ => by simp [smL]
  | [], _ :: _, _, _, h => by simp at h
  | _ :: _, [], _, _, h => by simp at h
  | a :: xs, b :: ys, x, y, h => by rw [List.cons_append, List.cons_append, smL, smL_snoc x y (by simpa using h), smL, Bool.and_assoc]
theorem smL_pre : ∀ {xs ys : List JV} {i : Nat} (hi : i < xs.length) (hj : i < ys.length), smJ xs[i] ys[i] = false → smL xs ys = false
  | x :: xs, y :: ys, 0, _, _, h => by rw [smL]; simp only [List.getElem_cons_zero] at h; rw [h, Bool.false_and]
  | x :: xs, y :: ys, i + 1, hi, hj, h => by
    rw [smL, smL_pre (xs := xs) (ys := ys) (i := i) (by simpa using hi) (by simpa using hj) (by simpa using h), Bool.and_false]
/-- an item of a list, as it lies -/
theorem repL_at {P : Nat → Prop} {w : World} : ∀ {xs : List JV} {g off : Nat}, RepL P w xs g off → ∀ i (hi : i < xs.length), ∃ cs, CsAt w g (off + i * 6) cs ∧ Rep P w xs[i] cs
  | x :: r, g, off, h, 0, _ => by
    unfold RepL at h
    obtain ⟨⟨cs, h1, h2⟩, _⟩ := h
    exact ⟨cs, by simpa using h1, h2⟩
  | x :: r, g, off, h, i + 1, hi => by
    unfold RepL at h
    obtain ⟨cs, h1, h2⟩ := repL_at h.2 i (by simpa using hi)
    exact ⟨cs, by rw [show off + (i + 1) * 6 = off + 6 + i * 6 by omega]; exact h1, by simpa using h2⟩
theorem mkS_beq (t t' : List UInt8) : ((mkS t).toList == (mkS t').toList) = (t == t') := by
  rw [Lib.toList_data, Lib.toList_data, data_mkS, data_mkS]
/-- a value's cells, taken apart -/
theorem rep_c6 {P : Nat → Prop} {w : World} {k : Int} {is : Bool} {n : Int} {t : List UInt8} {xs : List JV} {ks : List (List UInt8)} {cs : List Value} (h : Rep P w (.mk k is n t xs ks) cs) : ∃ ao q1 ap q2, cs = c6 k is n (mkS t) ao xs.length q1 ap ks.length q2 ∧ RdK P w (.slice ap ks.length q2) ks ∧ (xs ≠ [] → ∃ g off, ao = some ⟨g, off, none⟩ ∧ P g ∧ g < w.heap.size ∧ RepL P w xs g off) := by
  unfold Rep at h
  obtain ⟨ao, cap, vk, rfl, hk, hh⟩ := h
  obtain ⟨ap, q2, rfl, hk2⟩ := hk
  exact ⟨ao, cap, ap, q2, rfl, ⟨ap, q2, rfl, hk2⟩, hh⟩
end Go.Proofs.YtpgllcdcpdeicaaGreatDoor.Jv
namespace Go.Proofs.YtpgllcdcpdeicaaGreatDoor.Jv
open Jt
open Go.RowKit Go.ChangeMaps Go.MapKept Go.WideMaps
set_option linter.unusedSimpArgs false
set_option linter.unusedVariables false

theorem bdrN (W : World) (n : Nat) : Below W.heap.size W (W.drewN n) := ⟨rfl, rfl, rfl, Nat.le_refl _, fun _ _ => rfl⟩
theorem btr {a b d : World} (h : Below a.heap.size a b) (k : Below b.heap.size b d) : Below a.heap.size a d := h.trans (k.mono h.size)
theorem Kep.of {P : Nat → Prop} {w w' : World} (h : Below w.heap.size w w') : Kep P w w' := ⟨h.size, fun k _ hl => h.block k hl⟩
theorem rdk_at {P : Nat → Prop} {w : World} {ao : Option Addr} {n q : Nat} {ks : List (List UInt8)} (h : RdK P w (.slice ao n q) ks) (h0 : 0 < ks.length) : ∃ g off, ao = some ⟨g, off, none⟩ ∧ g < w.heap.size ∧ ∀ j (hj : j < ks.length), w.cell? ⟨g, off + j, none⟩ = some (.string (mkS ks[j])) := by
  obtain ⟨ao', cap, e, _, hh⟩ := h
  injection e with e1 e2 e3
  subst e1
  obtain ⟨g, off, rfl, _, hg, hc⟩ := hh (List.length_pos_iff.1 h0)
  exact ⟨g, off, rfl, hg, fun j hj => hc j _ (by rw [List.getElem?_map, List.getElem?_eq_getElem hj]; rfl)⟩
theorem take_eq {α : Type} {a b : List α} {j : Nat} (ha : j < a.length) (hb : j < b.length) (h : a.take j = b.take j) (e : a[j] = b[j]) : a.take (j + 1) = b.take (j + 1) := by
  rw [List.take_succ_eq_append_getElem ha, List.take_succ_eq_append_getElem hb, h, e]
/-- values in a slice -/
def IsVs (P : Nat → Prop) (w : World) (v : Value) (xs : List JV) : Prop := ∃ ao q, v = .slice ao xs.length q ∧ (xs ≠ [] → ∃ g off, ao = some ⟨g, off, none⟩ ∧ P g ∧ g < w.heap.size ∧ RepL P w xs g off)
theorem IsVs.keep {P : Nat → Prop} {w w' : World} {v : Value} {xs : List JV} (h : IsVs P w v xs) (hk : Kep P w w') : IsVs P w' v xs := by
  obtain ⟨ao, q, rfl, hh⟩ := h
  refine ⟨ao, q, rfl, fun hne => ?_⟩
  obtain ⟨g, off, rfl, hp, hg, hl⟩ := hh hne
  exact ⟨g, off, rfl, hp, Nat.lt_of_lt_of_le hg hk.1, RepL.keep hk xs hp hg hl⟩
theorem IsVs.at {P : Nat → Prop} {w : World} {ao : Option Addr} {n q : Nat} {xs : List JV} (h : IsVs P w (.slice ao n q) xs) (h0 : 0 < xs.length) : ∃ g off, ao = some ⟨g, off, none⟩ ∧ g < w.heap.size ∧ ∀ i (hi : i < xs.length), ∃ cs, CsAt w g (off + i * 6) cs ∧ Rep P w xs[i] cs := by
  obtain ⟨ao', cap, e, hh⟩ := h
  injection e with e1 e2 e3
  subst e1
  obtain ⟨g, off, rfl, _, hg, hl⟩ := hh (List.length_pos_iff.1 h0)
  exact ⟨g, off, rfl, hg, repL_at hl⟩
theorem cs6 {w : World} {g o : Nat} {a b c d e f : Value} (h : CsAt w g o [a, b, c, d, e, f]) : w.cell? ⟨g, o, none⟩ = some a ∧ w.cell? ⟨g, o + 1, none⟩ = some b ∧ w.cell? ⟨g, o + 2, none⟩ = some c ∧ w.cell? ⟨g, o + 3, none⟩ = some d ∧ w.cell? ⟨g, o + 4, none⟩ = some e ∧ w.cell? ⟨g, o + 5, none⟩ = some f :=
  ⟨by simpa using h 0 a rfl, h 1 b rfl, h 2 c rfl, h 3 d rfl, h 4 e rfl, h 5 f rfl⟩
def SmQ (b : Bool) (w : World) (e : Ending) (w' : World) : Prop := e = .returned (.bool b) ∧ Below w.heap.size w w'
theorem isvs {P : Nat → Prop} {w : World} {ao : Option Addr} {q : Nat} {xs : List JV} (h : xs ≠ [] → ∃ g off, ao = some ⟨g, off, none⟩ ∧ P g ∧ g < w.heap.size ∧ RepL P w xs g off) : IsVs P w (.slice ao xs.length q) xs := ⟨ao, q, rfl, h⟩
abbrev obR (k : Int) (b : Bool) (n : Int) (tx : ByteArray) (ao : Option Addr) (l1 q1 : Nat) (ap : Option Addr) (l2 q2 : Nat) : Obj := .cells #[.int .i64 k, .bool b, .int .i64 n, .string tx, .slice ao l1 q1, .slice ap l2 q2] 31
theorem infoR : (Tryz.prog.info? 31).map (fun i => (i.zero, i.size, i.bytes)) = some (some (.agg #[.int .i64 0, .bool false, .int .i64 0, .string ⟨#[]⟩, .slice none 0 0, .slice none 0 0]), 6, 88) := by kernel_rfl
theorem one_r (w : World) (xk : Int) (xb : Bool) (xn : Int) (xt : ByteArray) (xo : Option Addr) (xl xq : Nat) (yo : Option Addr) (yl yq : Nat) : ∃ W, W = w.alloc (obR xk xb xn xt xo xl xq yo yl yq) ∧ W.heap[w.heap.size]? = some (obR xk xb xn xt xo xl xq yo yl yq) ∧ Below w.heap.size w W := ⟨_, rfl, heap_alloc_new w _, (Below.refl _ _).alloc (Nat.le_refl _) _⟩
/-- two blocks, one behind the other -/
theorem two_o (w : World) (a b : Array Value) (S T : TypeId) : ∃ W, W = (w.alloc (.cells a S)).alloc (.cells b T) ∧ W.heap[w.heap.size]? = some (.cells a S (0, 0)) ∧ W.heap[w.heap.size + 1]? = some (.cells b T (0, 0)) ∧ Below w.heap.size w W := by
  refine ⟨_, rfl, ?_, ?_, ((Below.refl _ _).alloc (Nat.le_refl _) _).alloc (by simp) _⟩
  · exact (((Below.refl (w.heap.size + 1) (w.alloc (.cells a S))).alloc (by simp) _).block _ (by omega)).trans (heap_alloc_new w _)
  · have := heap_alloc_new (w.alloc (.cells a S)) (.cells b T)
    simpa using this
/-- a row of one's own, and the trees of its values, which lie elsewhere -/
def RW (Q : Nat → Prop) (B : Nat) (T : TypeId) (v : Value) (xs : List JV) (w : World) : Prop := ∃ css, w.ownsRow B T 6 v xs.length (List.flatten css) ∧ RepA (fun k => Q k ∧ v.ownBlock ≠ some k) w xs css
theorem RW.nil (Q : Nat → Prop) (B : Nat) (T : TypeId) (w : World) : RW Q B T (.slice none 0 0) [] w := ⟨[], World.ownsRow_nil _ _ _ _, trivial⟩
theorem RW.go {Q : Nat → Prop} {B : Nat} {T : TypeId} {v : Value} {xs : List JV} {w w' : World} (h : RW Q B T v xs w) (hb : Below w.heap.size w w') : RW Q B T v xs w' := by
  obtain ⟨css, h1, h2⟩ := h
  exact ⟨css, row_keep h1 (Grw.of_below (X := fun j => w.heap.size ≤ j) hb (fun k h _ => h)) (fun j e => ⟨(World.ownsRow.lt h1 j e).2, by have := (World.ownsRow.lt h1 j e).2; omega⟩), h2.keep (Kep.of hb)⟩
theorem RW.form {Q : Nat → Prop} {B : Nat} {T : TypeId} {v : Value} {xs : List JV} {w : World} (h : RW Q B T v xs w) : ∃ ao cap, v = .slice ao xs.length cap := by
  obtain ⟨css, h1, _⟩ := h
  rcases h1.2 with ⟨rfl, h0⟩ | ⟨g, cap, cur, rfl, _⟩
  · exact ⟨none, 0, by rw [h0]⟩
  · exact ⟨_, _, rfl⟩
theorem RW.lt {Q : Nat → Prop} {B : Nat} {T : TypeId} {v : Value} {xs : List JV} {w : World} (h : RW Q B T v xs w) : ∀ j, v.ownBlock = some j → B ≤ j ∧ j < w.heap.size := by
  obtain ⟨css, h1, _⟩ := h
  exact World.ownsRow.lt h1
theorem RW.snoc {Q : Nat → Prop} {B g cap : Nat} {T : TypeId} {v : Value} {xs : List JV} {x : JV} {css : List (List Value)} {cs : List Value} {WB V : World} (h2 : RepA (fun k => Q k ∧ v.ownBlock ≠ some k) WB xs css) (hx : Rep (fun k => Q k ∧ v.ownBlock ≠ some k) WB x cs)
    (hown : V.ownsRow B T 6 (.slice (some ⟨g, 0, none⟩) (xs.length + 1) cap) (xs.length + 1) (List.flatten css ++ cs)) (hgrow : WB.grownBy V v.ownBlock) (hat : v.ownBlock = some g ∨ g = WB.heap.size) : RW Q B T (.slice (some ⟨g, 0, none⟩) (xs.length + 1) cap) (xs ++ [x]) V := by
  have mon : ∀ k, (Q k ∧ v.ownBlock ≠ some k) → k < WB.heap.size → ((Q k ∧ v.ownBlock ≠ some k) ∧ (Value.slice (some ⟨g, 0, none⟩) (xs.length + 1) cap).ownBlock ≠ some k) := fun k hk hl => ⟨hk, fun e => by
    have e : g = k := by injection e
    rcases hat with h | h
    · exact hk.2 (by rw [← e]; exact h)
    · omega⟩
  have kep : Kep (fun k => (Q k ∧ v.ownBlock ≠ some k) ∧ (Value.slice (some ⟨g, 0, none⟩) (xs.length + 1) cap).ownBlock ≠ some k) WB V := ⟨hgrow.size, fun k hk hl => hgrow.block k hl (fun e => hk.1.2 e.symm)⟩
  refine ⟨css ++ [cs], ?_, RepA.mono (fun k hk _ => ⟨hk.1.1, hk.2⟩) (RepA.keep kep (RepA.snoc (hx.mono mon) (h2.mono mon)))⟩
  rw [List.length_append, List.flatten_append]
  simpa using hown
/-- the finished row, as the items of a value -/
theorem RW.list {Q : Nat → Prop} {B : Nat} {T : TypeId} {ao : Option Addr} {n q : Nat} {xs : List JV} {w : World} (h : RW Q B T (.slice ao n q) xs w) : n = xs.length ∧ (xs ≠ [] → ∃ g off, ao = some ⟨g, off, none⟩ ∧ (Q g ∨ B ≤ g) ∧ g < w.heap.size ∧ RepL (fun k => Q k ∨ B ≤ k) w xs g off) := by
  obtain ⟨css, h1, h2⟩ := h
  rcases h1.2 with ⟨e, h0⟩ | ⟨g, cap, cur, e, e2, e3, e4, e5, e6, e7⟩
  · injection e with e1 e2 e3
    exact ⟨by omega, fun hne => absurd (List.eq_nil_of_length_eq_zero h0) hne⟩
  · injection e with e8 e9 e10
    subst e8
    refine ⟨e9, fun _ => ⟨g, 0, rfl, .inr e2, (Array.getElem?_eq_some_iff.1 e3).1, RepA.list (h2.mono fun k hk _ => .inl hk.1) (fun j v hv => ?_)⟩⟩
    rw [cell_of_row _ _ _ _ _ _ e3, Nat.zero_add]
    have hl := h1.1
    have hj : j < xs.length * 6 := by
      rcases Nat.lt_or_ge j (List.flatten css).length with h | h
      · omega
      · rw [List.getElem?_eq_none h] at hv; cases hv
    have h10 : (cur.toList.take (xs.length * 6))[j]? = some v := by rw [e7]; exact hv
    rw [List.getElem?_take, if_pos hj] at h10
    simpa using h10
theorem c6_one (k : Int) (b : Bool) (n : Int) (tx : ByteArray) (ao : Option Addr) (l1 q1 : Nat) (ap : Option Addr) (l2 q2 : Nat) : ∀ v ∈ c6 k b n tx ao l1 q1 ap l2 q2, v.oneCell' = true := fun v hv => by
  simp at hv
  rcases hv with rfl | rfl | rfl | rfl | rfl | rfl <;> rfl
/-- what Cut and Ours answer -/
def CuQ (x : JV) (P : Nat → Prop) (w : World) (e : Ending) (w' : World) : Prop := ∃ xk xb xn xt xo xl xq yo yl yq, e = .returned (.agg #[.int .i64 xk, .bool xb, .int .i64 xn, .string xt, .slice xo xl xq, .slice yo yl yq]) ∧ Rep (fun k => P k ∨ w.heap.size ≤ k) w' x (c6 xk xb xn xt xo xl xq yo yl yq) ∧ Below w.heap.size w w'
/-- a value that is cut -/
def cutJ : Nat → JV → JV
  | 0, .mk k is n t _ ks => .mk k is n (t.take 40) [] (ks.take 6)
  | d + 1, .mk k is n t xs ks => .mk k is n (t.take 40) ((xs.take 5).map (cutJ d)) (ks.take 6)
theorem RW.gr {Q X : Nat → Prop} {B : Nat} {T : TypeId} {v : Value} {xs : List JV} {w w' : World} (h : RW Q B T v xs w) (hg : Grw X w w') (hq : ∀ k, Q k → ¬ X k) (hb : ∀ k, B ≤ k → ¬ X k) : RW Q B T v xs w' := by
  obtain ⟨css, h1, h2⟩ := h
  exact ⟨css, row_keep h1 hg (fun j e => ⟨(World.ownsRow.lt h1 j e).2, hb j (World.ownsRow.lt h1 j e).1⟩), h2.keep ⟨hg.size, fun k hk hl => hg.block hl (hq k hk.1)⟩⟩
/-- three blocks -/
theorem three_o (w : World) (a b c : Array Value) (S T U : TypeId) : ∃ W, W = ((w.alloc (.cells a S)).alloc (.cells b T)).alloc (.cells c U) ∧ W.heap[w.heap.size]? = some (.cells a S (0, 0)) ∧ W.heap[w.heap.size + 1]? = some (.cells b T (0, 0)) ∧ W.heap[w.heap.size + 2]? = some (.cells c U (0, 0)) ∧ Below w.heap.size w W := by
  obtain ⟨V, hV, h0, h1, hb⟩ := two_o w a b S T
  have hz : V.heap.size = w.heap.size + 2 := by rw [hV]; simp
  have h2 := heap_alloc_new V (.cells c U)
  have hb2 := (Below.refl V.heap.size V).alloc (Nat.le_refl _) (.cells c U)
  subst hV
  refine ⟨_, rfl, (hb2.block _ (by omega)).trans h0, (hb2.block _ (by omega)).trans h1, ?_, hb.trans (hb2.mono hb.size)⟩
  rw [hz] at h2
  exact h2
end Go.Proofs.YtpgllcdcpdeicaaGreatDoor.Jv
