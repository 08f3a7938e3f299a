/- Contracts and plain mathematics of some packages' functions, laid together; conditions as each one says. -/
import Derived.Test.YtpgllcdcpdeicaaGreatDoorJvGv
import Derived.Test.YtpgllcdcpdeicaaGreatDoorJvGa
import Derived.Test.YtpgllcdcpdeicaaGreatDoorJtRef5
import Derived.Deep.Cut
import Derived.Deep.RegionHeld3
import Derived.Test.YtpgllcdcpdeicaaGreatDoorJvKeyD
import Derived.Test.YtpgllcdcpdeicaaGreatDoorJvGc
import Derived.Deep.RegionHeldLaw
import Derived.Deep.AppendLies
namespace Go.Proofs.YtpgllcdcpdeicaaGreatDoor.Jv
open Jt
set_option linter.unusedSimpArgs false
set_option linter.unusedVariables false

/-- where the document's reader stands, the first error, and where -/
structure QS where
  at' : Nat
  bad : Int
  pos : Nat
def er6 (e : Int) : Int := if e = 6 then 3 else e
theorem er6_ne {e : Int} (h : e ≠ 0) : er6 e ≠ 0 := by unfold er6; split <;> omega
def pkE (l : List UInt8) (a : Nat) : Int := er6 (tokA l a).2
def failQ (l : List UInt8) (e : Int) (st : QS) : QS := if st.bad = 0 then ⟨st.at', e, endP blkB l st.at'⟩ else st
def isQ (l : List UInt8) (k : Nat) (st : QS) : Bool × QS := if st.bad = 0 ∧ pkE l st.at' = 0 ∧ (tokA l st.at').1.k = k then (true, ⟨(tokA l st.at').1.b, st.bad, st.pos⟩) else (false, st)
def mustQ (l : List UInt8) (k : Nat) (st : QS) : QS := if (isQ l k st).1 then (isQ l k st).2 else failQ l (if pkE l st.at' = 0 then 3 else pkE l st.at') (isQ l k st).2
/-- an object's key is asked for: what stands there, and the reader behind it -/
def dupQ (l : List UInt8) (ks : List (List UInt8)) (st : QS) : QS := if pkE l st.at' = 0 ∧ (tokA l st.at').1.k = 7 ∧ (tokA l st.at').1.t ∈ ks then failQ l 3 st else st
def keyQ (l : List UInt8) (ks : List (List UInt8)) (st : QS) : QS := mustQ l 5 (mustQ l 7 (dupQ l ks st))
mutual
def valQ (l : List UInt8) : Nat → Int → QS → JV × QS
  | 0, _, st => (zV, failQ l 3 ⟨st.at', st.bad, 0⟩)
  | f + 1, room, st =>
    if st.bad ≠ 0 then (zV, st)
    else if pkE l st.at' ≠ 0 then (zV, failQ l (pkE l st.at') st)
    else if ((tokA l st.at').1.k = 1 ∨ (tokA l st.at').1.k = 3) ∧ room < 1 then (zV, failQ l 4 st)
    else if (tokA l st.at').1.k = 1 ∨ (tokA l st.at').1.k = 3 then
      (if (isQ l (lastK ((tokA l st.at').1.k == 1)) ⟨(tokA l st.at').1.b, st.bad, st.pos⟩).1 then (.mk (kndV ((tokA l st.at').1.k == 1)) false 0 [] [] [], (isQ l (lastK ((tokA l st.at').1.k == 1)) ⟨(tokA l st.at').1.b, st.bad, st.pos⟩).2)
      else loopQ l f ((tokA l st.at').1.k == 1) (room - 1) [] [] ⟨(tokA l st.at').1.b, st.bad, st.pos⟩)
    else if (tokA l st.at').1.k = 7 then (.mk 3 false 0 (tokA l st.at').1.t [] [], ⟨(tokA l st.at').1.b, st.bad, st.pos⟩)
    else if (tokA l st.at').1.k = 8 then (.mk 2 false (tokA l st.at').1.n [] [] [], ⟨(tokA l st.at').1.b, st.bad, st.pos⟩)
    else if (tokA l st.at').1.k = 9 ∨ (tokA l st.at').1.k = 10 then (.mk 1 ((tokA l st.at').1.k == 9) 0 [] [] [], ⟨(tokA l st.at').1.b, st.bad, st.pos⟩)
    else if (tokA l st.at').1.k = 11 then (zV, ⟨(tokA l st.at').1.b, st.bad, st.pos⟩)
    else (zV, failQ l 3 st)
def loopQ (l : List UInt8) : Nat → Bool → Int → List (List UInt8) → List JV → QS → JV × QS
  | 0, o, _, ks, xs, st => (.mk (kndV o) false 0 [] xs ks, failQ l 3 st)
  | f + 1, o, room, ks, xs, st =>
    if st.bad ≠ 0 then (.mk (kndV o) false 0 [] xs ks, st)
    else
      let st1 := if o then keyQ l ks st else st
      let ks1 := if o then ks ++ [(tokA l st.at').1.t] else ks
      let r := valQ l f room st1
      if (isQ l (lastK o) r.2).1 then (.mk (kndV o) false 0 [] (xs ++ [r.1]) ks1, (isQ l (lastK o) r.2).2)
      else loopQ l f o room ks1 (xs ++ [r.1]) (mustQ l 6 (isQ l (lastK o) r.2).2)
end
theorem tokA_a {l : List UInt8} {k : Nat} (h : (tokA l k).2 = 0) : (tokA l k).1.a = endP blkB l k := by
  unfold tokA at h ⊢
  split at h
  · cases h
  · rename_i hc
    rw [if_neg hc]; exact tokP_a h
theorem nx_y {l : List UInt8} {a : Nat} {t : Tok} (h : nx l a = .ok t) : pkE l a = 0 ∧ (tokA l a).1 = t ∧ t.a = endP blkB l a := by
  unfold nx at h
  by_cases h0 : (tokA l a).2 = 0
  · rw [if_pos h0] at h; cases h
    exact ⟨by unfold pkE er6; rw [h0]; rfl, rfl, tokA_a h0⟩
  · rw [if_neg h0] at h; cases h
theorem nx_n {l : List UInt8} {a : Nat} {e : Er} (h : nx l a = .error e) : pkE l a ≠ 0 ∧ pkE l a = er6 e.2 ∧ e.1 = endP blkB l a ∧ e.2 ≠ 0 := by
  unfold nx at h
  by_cases h0 : (tokA l a).2 = 0
  · rw [if_pos h0] at h; cases h
  · rw [if_neg h0] at h; cases h
    exact ⟨er6_ne h0, rfl, rfl, h0⟩
/-- one that has failed stays so -/
theorem failQ_b {l : List UInt8} {e : Int} {st : QS} (h : st.bad ≠ 0) : failQ l e st = st := by unfold failQ; rw [if_neg h]
theorem isQ_b {l : List UInt8} {k : Nat} {st : QS} (h : st.bad ≠ 0) : isQ l k st = (false, st) := by unfold isQ; rw [if_neg (fun g => h g.1)]
theorem mustQ_b {l : List UInt8} {k : Nat} {st : QS} (h : st.bad ≠ 0) : mustQ l k st = st := by unfold mustQ; rw [isQ_b h]; simp only [Bool.false_eq_true, if_false]; exact failQ_b h
theorem keyQ_b {l : List UInt8} {ks : List (List UInt8)} {st : QS} (h : st.bad ≠ 0) : keyQ l ks st = st := by
  have : dupQ l ks st = st := by unfold dupQ; split; exact failQ_b h; rfl
  unfold keyQ; rw [this, mustQ_b h, mustQ_b h]
theorem valQ_b {l : List UInt8} {f : Nat} {room : Int} {st : QS} (h : st.bad ≠ 0) : (valQ l (f + 1) room st) = (zV, st) := by rw [valQ, if_pos h]
theorem loopQ_b {l : List UInt8} {f : Nat} {o : Bool} {room : Int} {ks : List (List UInt8)} {xs : List JV} {st : QS} (h : st.bad ≠ 0) : (loopQ l f o room ks xs st).2 = st := by
  cases f with
  | zero => rw [loopQ]; exact failQ_b h
  | succ f => rw [loopQ, if_pos h]
/-- the next token is of a kind, is of another, is none -/
theorem isQ_y {l : List UInt8} {a p k : Nat} {t : Tok} (h : nx l a = .ok t) (hk : t.k = k) : isQ l k ⟨a, 0, p⟩ = (true, ⟨t.b, 0, p⟩) := by
  obtain ⟨h1, h2, _⟩ := nx_y h
  unfold isQ; rw [if_pos ⟨rfl, h1, by show (tokA l a).1.k = k; rw [h2]; exact hk⟩]; show (true, (⟨(tokA l a).1.b, 0, p⟩ : QS)) = _; rw [h2]
theorem isQ_o {l : List UInt8} {a p k : Nat} {t : Tok} (h : nx l a = .ok t) (hk : t.k ≠ k) : isQ l k ⟨a, 0, p⟩ = (false, ⟨a, 0, p⟩) := by
  obtain ⟨h1, h2, _⟩ := nx_y h
  unfold isQ; rw [if_neg (fun g => hk (by have := g.2.2; simp only at this; rw [h2] at this; exact this))]
theorem isQ_n {l : List UInt8} {a p k : Nat} {e : Er} (h : nx l a = .error e) : isQ l k ⟨a, 0, p⟩ = (false, ⟨a, 0, p⟩) := by
  unfold isQ; rw [if_neg (fun g => (nx_n h).1 g.2.1)]
theorem mustQ_y {l : List UInt8} {a p k : Nat} {t : Tok} (h : nx l a = .ok t) (hk : t.k = k) : mustQ l k ⟨a, 0, p⟩ = ⟨t.b, 0, p⟩ := by unfold mustQ; rw [isQ_y h hk]; rfl
theorem mustQ_o {l : List UInt8} {a p k : Nat} {t : Tok} (h : nx l a = .ok t) (hk : t.k ≠ k) : mustQ l k ⟨a, 0, p⟩ = ⟨a, 3, t.a⟩ := by
  unfold mustQ; rw [isQ_o h hk, (nx_y h).2.2, if_pos (nx_y h).1]; rfl
theorem mustQ_n {l : List UInt8} {a p k : Nat} {e : Er} (h : nx l a = .error e) : mustQ l k ⟨a, 0, p⟩ = ⟨a, er6 e.2, e.1⟩ := by
  unfold mustQ; rw [isQ_n h]; simp only [Bool.false_eq_true, if_false]
  rw [if_neg (nx_n h).1, (nx_n h).2.1, (nx_n h).2.2.1]; rfl
/-- it has failed so -/
def Bd (st : QS) (e : Er) : Prop := st.bad = er6 e.2 ∧ st.pos = e.1 ∧ e.2 ≠ 0
theorem Bd.ne {st : QS} {e : Er} (h : Bd st e) : st.bad ≠ 0 := by rw [h.1]; exact er6_ne h.2.2
theorem Bd.mk' (a : Nat) {e : Er} (h : e.2 ≠ 0) : Bd ⟨a, er6 e.2, e.1⟩ e := ⟨rfl, rfl, h⟩
theorem Bd.three (a b : Nat) : Bd ⟨a, 3, b⟩ (b, 3) := ⟨rfl, rfl, show (3 : Int) ≠ 0 by decide⟩
/-- a key and its colon, as the code reads them -/
theorem keyQ_is {l : List UInt8} {ks : List (List UInt8)} {a p : Nat} {t : Tok} (ha : a ≤ l.length) (h : nx l a = .ok t) :
    (∀ e, keyP l ks t = .error e → Bd (keyQ l ks ⟨a, 0, p⟩) e ∨ ∃ b, a ≤ b ∧ b ≤ l.length ∧ keyQ l ks ⟨a, 0, p⟩ = ⟨b, 0, p⟩ ∧ nx l b = .error e) ∧
    (∀ u, keyP l ks t = .ok u → ∃ b, a ≤ b ∧ b ≤ l.length ∧ keyQ l ks ⟨a, 0, p⟩ = ⟨b, 0, p⟩ ∧ nx l b = .ok u) := by
  obtain ⟨y1, y2, y3⟩ := nx_y h
  have hbd := nx_ok ha h
  have hd : dupQ l ks ⟨a, 0, p⟩ = if t.k = 7 ∧ t.t ∈ ks then ⟨a, 3, t.a⟩ else ⟨a, 0, p⟩ := by
    unfold dupQ
    simp only [y2, y1, true_and]
    split
    · unfold failQ; rw [if_pos rfl, y3]
    · rfl
  unfold keyQ
  rw [hd]
  by_cases h7 : t.k = 7
  · by_cases hm : t.t ∈ ks
    · rw [if_pos ⟨h7, hm⟩]
      rw [mustQ_b (st := ⟨a, 3, t.a⟩) (by simp), mustQ_b (st := ⟨a, 3, t.a⟩) (by simp)]
      refine ⟨fun e he => .inl ?_, fun u hu => ?_⟩
      · unfold keyP at he
        rw [if_pos (.inl hm)] at he; cases he
        exact Bd.three _ _
      · unfold keyP at hu
        rw [if_pos (.inl hm)] at hu; cases hu
    · rw [if_neg (fun g => hm g.2), mustQ_y h h7]
      have hk : keyP l ks t = match nx l t.b with
        | .error e => .error e
        | .ok u => if u.k ≠ 5 then .error (u.a, 3) else nx l u.b := by
          unfold keyP; rw [if_neg (fun g => by rcases g with g | g; exact hm g; exact g h7)]; cases nx l t.b <;> rfl
      rw [hk]
      cases hx : nx l t.b with
      | error e =>
        rw [mustQ_n hx]
        exact ⟨fun e' he => by cases he; exact .inl (Bd.mk' _ (nx_n hx).2.2.2), fun u hu => by cases hu⟩
      | ok v =>
        have hv := nx_ok hbd.2 hx
        dsimp only
        by_cases h5 : v.k = 5
        · rw [mustQ_y hx h5, if_neg (fun g => g h5)]
          exact ⟨fun e he => .inr ⟨v.b, by omega, hv.2, rfl, he⟩, fun u hu => ⟨v.b, by omega, hv.2, rfl, hu⟩⟩
        · rw [mustQ_o hx h5, if_pos h5]
          exact ⟨fun e he => by cases he; exact .inl (Bd.three _ _), fun u hu => by cases hu⟩
  · rw [if_neg (fun g => h7 g.1), mustQ_o h h7, mustQ_b (st := ⟨a, 3, t.a⟩) (by simp)]
    have hk : keyP l ks t = .error (t.a, 3) := by unfold keyP; rw [if_pos (.inr h7)]
    rw [hk]
    exact ⟨fun e he => by cases he; exact .inl (Bd.three _ _), fun u hu => by cases hu⟩
theorem keyQ_n {l : List UInt8} {ks : List (List UInt8)} {a p : Nat} {e : Er} (h : nx l a = .error e) : keyQ l ks ⟨a, 0, p⟩ = ⟨a, er6 e.2, e.1⟩ := by
  have hd : dupQ l ks ⟨a, 0, p⟩ = ⟨a, 0, p⟩ := by unfold dupQ; rw [if_neg (fun g => (nx_n h).1 g.1)]
  unfold keyQ; rw [hd, mustQ_n h, mustQ_b (er6_ne (nx_n h).2.2.2)]
set_option maxRecDepth 4000 in
/-- the document's reader reads as the code does -/
theorem eqv (l : List UInt8) : ∀ (f : Nat),
    (∀ (room : Int) (a p : Nat), a ≤ l.length → 2 * (l.length - a) + 1 ≤ f →
      (∀ e, nx l a = .error e → valQ l f room ⟨a, 0, p⟩ = (zV, ⟨a, er6 e.2, e.1⟩)) ∧
      (∀ t, nx l a = .ok t → (∀ r, pv l f room t = .ok r → valQ l f room ⟨a, 0, p⟩ = (r.1, ⟨r.2, 0, p⟩)) ∧ (∀ e, pv l f room t = .error e → Bd (valQ l f room ⟨a, 0, p⟩).2 e))) ∧
    (∀ (o : Bool) (room : Int) (ks : List (List UInt8)) (xs : List JV) (a p : Nat), a ≤ l.length → 2 * (l.length - a) + 2 ≤ f →
      (∀ e, nx l a = .error e → Bd (loopQ l f o room ks xs ⟨a, 0, p⟩).2 e) ∧
      (∀ t, nx l a = .ok t → (∀ r, pl l f o room ks xs t = .ok r → loopQ l f o room ks xs ⟨a, 0, p⟩ = (r.1, ⟨r.2, 0, p⟩)) ∧ (∀ e, pl l f o room ks xs t = .error e → Bd (loopQ l f o room ks xs ⟨a, 0, p⟩).2 e))) := by
  intro f
  induction f with
  | zero => exact ⟨fun room a p _ h => by omega, fun o room ks xs a p _ h => by omega⟩
  | succ f ih =>
    refine ⟨fun room a p ha hf => ⟨fun e he => ?_, fun t ht => ?_⟩, fun o room ks xs a p ha hf => ⟨fun e he => ?_, fun t ht => ?_⟩⟩
    · obtain ⟨n1, n2, n3, n4⟩ := nx_n he
      rw [valQ, if_neg (by simp), if_pos n1]
      unfold failQ
      rw [if_pos rfl, n2, n3]
    · obtain ⟨y1, y2, y3⟩ := nx_y ht
      have hb := nx_ok ha ht
      have hv : valQ l (f + 1) room ⟨a, 0, p⟩ = if (t.k = 1 ∨ t.k = 3) ∧ room < 1 then (zV, ⟨a, 4, t.a⟩)
        else if t.k = 1 ∨ t.k = 3 then
          (if (isQ l (lastK (t.k == 1)) ⟨t.b, 0, p⟩).1 then (.mk (kndV (t.k == 1)) false 0 [] [] [], (isQ l (lastK (t.k == 1)) ⟨t.b, 0, p⟩).2)
          else loopQ l f (t.k == 1) (room - 1) [] [] ⟨t.b, 0, p⟩)
        else if t.k = 7 then (.mk 3 false 0 t.t [] [], ⟨t.b, 0, p⟩)
        else if t.k = 8 then (.mk 2 false t.n [] [] [], ⟨t.b, 0, p⟩)
        else if t.k = 9 ∨ t.k = 10 then (.mk 1 (t.k == 9) 0 [] [] [], ⟨t.b, 0, p⟩)
        else if t.k = 11 then (zV, ⟨t.b, 0, p⟩)
        else (zV, ⟨a, 3, t.a⟩) := by
          rw [valQ, if_neg (by simp), if_neg (by simp [y1])]
          simp only [y2]
          unfold failQ
          simp only [if_true, y3]
      by_cases h1 : t.k = 1 ∨ t.k = 3
      · rw [hv, pv]
        clear hv
        have hn : t.k ≠ 11 ∧ ¬ (t.k = 9 ∨ t.k = 10) ∧ t.k ≠ 8 ∧ t.k ≠ 7 := by omega
        rw [if_neg hn.1, if_neg hn.2.1, if_neg hn.2.2.1, if_neg hn.2.2.2, if_pos h1]
        by_cases hr : room < 1
        · rw [if_pos (show (t.k = 1 ∨ t.k = 3) ∧ room < 1 from ⟨h1, hr⟩), if_pos hr]
          exact ⟨fun r hq => (by cases hq), fun e hq => by cases hq; exact ⟨rfl, rfl, show (4 : Int) ≠ 0 by decide⟩⟩
        · rw [if_neg (show ¬ ((t.k = 1 ∨ t.k = 3) ∧ room < 1) from fun g => hr g.2), if_pos h1, if_neg hr]
          have il := ih.2 (t.k == 1) (room - 1) [] [] t.b p hb.2 (by omega)
          cases hx : nx l t.b with
          | error e =>
            rw [isQ_n hx]
            exact ⟨fun r hq => (by cases hq), fun e' hq => by cases hq; exact il.1 e hx⟩
          | ok u =>
            dsimp only
            by_cases hu : u.k = lastK (t.k == 1)
            · rw [isQ_y hx hu, if_pos hu]
              exact ⟨fun r hq => by cases hq; rfl, fun e hq => (by cases hq)⟩
            · rw [isQ_o hx hu, if_neg hu]
              exact il.2 u hx
      · rw [if_neg (show ¬ ((t.k = 1 ∨ t.k = 3) ∧ room < 1) from fun g => h1 g.1), if_neg h1] at hv
        by_cases h7 : t.k = 7
        · rw [if_pos h7] at hv
          rw [hv, pv, if_neg (show t.k ≠ 11 by omega), if_neg (show ¬ (t.k = 9 ∨ t.k = 10) by omega), if_neg (show t.k ≠ 8 by omega), if_pos h7]
          exact ⟨fun r hq => by cases hq; rfl, fun e hq => (by cases hq)⟩
        rw [if_neg h7] at hv
        by_cases h8 : t.k = 8
        · rw [if_pos h8] at hv
          rw [hv, pv, if_neg (show t.k ≠ 11 by omega), if_neg (show ¬ (t.k = 9 ∨ t.k = 10) by omega), if_pos h8]
          exact ⟨fun r hq => by cases hq; rfl, fun e hq => (by cases hq)⟩
        rw [if_neg h8] at hv
        by_cases h9 : t.k = 9 ∨ t.k = 10
        · rw [if_pos h9] at hv
          rw [hv, pv, if_neg (show t.k ≠ 11 by omega), if_pos h9]
          exact ⟨fun r hq => by cases hq; rfl, fun e hq => (by cases hq)⟩
        rw [if_neg h9] at hv
        by_cases h11 : t.k = 11
        · rw [if_pos h11] at hv
          rw [hv, pv, if_pos h11]
          exact ⟨fun r hq => by cases hq; rfl, fun e hq => (by cases hq)⟩
        · rw [if_neg h11] at hv
          rw [hv, pv, if_neg h11, if_neg h9, if_neg h8, if_neg h7, if_neg h1]
          exact ⟨fun r hq => (by cases hq), fun e hq => by cases hq; exact Bd.three _ _⟩
    · obtain ⟨f', rfl⟩ : ∃ f', f = f' + 1 := ⟨f - 1, by omega⟩
      rw [loopQ, if_neg (by simp)]
      cases o with
      | true =>
        simp only [if_true, keyQ_n he]
        have hne := er6_ne (nx_n he).2.2.2
        rw [valQ_b hne, isQ_b hne]
        simp only [Bool.false_eq_true, if_false]
        rw [mustQ_b hne, loopQ_b hne]
        exact Bd.mk' _ (nx_n he).2.2.2
      | false =>
        simp only [Bool.false_eq_true, if_false]
        rw [(ih.1 room a p ha (by omega)).1 e he]
        have hne := er6_ne (nx_n he).2.2.2
        simp only [isQ_b (show (⟨a, er6 e.2, e.1⟩ : QS).bad ≠ 0 from hne), Bool.false_eq_true, if_false]
        rw [mustQ_b hne, loopQ_b hne]
        exact Bd.mk' _ (nx_n he).2.2.2
    · have hb := nx_ok ha ht
      obtain ⟨y1, y2, y3⟩ := nx_y ht
      have key : (∀ e, (if o = true then keyP l ks t else .ok t) = .error e → Bd (if o = true then keyQ l ks ⟨a, 0, p⟩ else ⟨a, 0, p⟩) e ∨ ∃ b, a ≤ b ∧ b ≤ l.length ∧ (if o = true then keyQ l ks ⟨a, 0, p⟩ else ⟨a, 0, p⟩) = ⟨b, 0, p⟩ ∧ nx l b = .error e) ∧
          (∀ u, (if o = true then keyP l ks t else .ok t) = .ok u → ∃ b, a ≤ b ∧ b ≤ l.length ∧ (if o = true then keyQ l ks ⟨a, 0, p⟩ else ⟨a, 0, p⟩) = ⟨b, 0, p⟩ ∧ nx l b = .ok u) := by
        cases o with
        | true => simp only [if_true]; exact keyQ_is ha ht
        | false =>
          simp only [Bool.false_eq_true, if_false]
          exact ⟨fun e he => (by cases he), fun u hu => by cases hu; exact ⟨a, Nat.le_refl _, ha, rfl, ht⟩⟩
      obtain ⟨f', rfl⟩ : ∃ f', f = f' + 1 := ⟨f - 1, by omega⟩
      rw [loopQ, if_neg (by simp), pl]
      simp only [y2]
      generalize (if o = true then keyQ l ks ⟨a, 0, p⟩ else ⟨a, 0, p⟩) = S1 at key ⊢
      generalize (if o = true then ks ++ [t.t] else ks) = ks1 at *
      cases hk : (if o = true then keyP l ks t else .ok t) with
      | error e =>
        refine ⟨fun r hq => (by cases hq), fun e' hq => ?_⟩
        cases hq
        rcases key.1 e hk with hB | ⟨b, hb1, hb2, hS, hnx⟩
        · have hne := hB.ne
          rw [valQ_b hne, isQ_b hne]
          simp only [Bool.false_eq_true, if_false]
          rw [mustQ_b hne, loopQ_b hne]
          exact hB
        · subst hS
          have hne := er6_ne (nx_n hnx).2.2.2
          rw [(ih.1 room b p hb2 (by omega)).1 e hnx]
          simp only [isQ_b (show (⟨b, er6 e.2, e.1⟩ : QS).bad ≠ 0 from hne), Bool.false_eq_true, if_false]
          rw [mustQ_b hne, loopQ_b hne]
          exact Bd.mk' _ (nx_n hnx).2.2.2
      | ok u =>
        obtain ⟨b, hb1, hb2, hS, hnx⟩ := key.2 u hk
        subst hS
        have hu := nx_ok hb2 hnx
        have iv := (ih.1 room b p hb2 (by omega)).2 u hnx
        dsimp only
        cases hv : pv l (f' + 1) room u with
        | error e =>
          refine ⟨fun r hq => (by cases hq), fun e' hq => ?_⟩
          cases hq
          have hB := iv.2 e hv
          have hne := hB.ne
          rw [isQ_b hne]
          simp only [Bool.false_eq_true, if_false]
          rw [mustQ_b hne, loopQ_b hne]
          exact hB
        | ok q =>
          have hq := read_ok l (f' + 1)
          obtain ⟨r1, r2, _⟩ := hq.1 room u q hu.2 hv
          rw [iv.1 q hv]
          dsimp only
          unfold bhP
          cases hx : nx l q.2 with
          | error e =>
            rw [isQ_n hx]
            simp only [Bool.false_eq_true, if_false]
            rw [mustQ_n hx]
            refine ⟨fun r hq => (by cases hq), fun e' hq => ?_⟩
            cases hq
            rw [loopQ_b (er6_ne (nx_n hx).2.2.2)]
            exact Bd.mk' _ (nx_n hx).2.2.2
          | ok c =>
            have hc := nx_ok r2 hx
            dsimp only
            by_cases hl : c.k = lastK o
            · rw [isQ_y hx hl, if_pos hl]
              exact ⟨fun r hq => by cases hq; rfl, fun e hq => (by cases hq)⟩
            · rw [isQ_o hx hl, if_neg hl]
              simp only [Bool.false_eq_true, if_false]
              by_cases h6 : c.k = 6
              · rw [mustQ_y hx h6, if_neg (fun g => g h6)]
                have il := ih.2 o room ks1 (xs ++ [q.1]) c.b p hc.2 (by omega)
                cases hy : nx l c.b with
                | error e =>
                  refine ⟨fun r hq => (by cases hq), fun e' hq => ?_⟩
                  cases hq
                  exact il.1 e hy
                | ok v => exact il.2 v hy
              · rw [mustQ_o hx h6, if_pos h6]
                refine ⟨fun r hq => (by cases hq), fun e' hq => ?_⟩
                cases hq
                rw [loopQ_b (by simp)]
                exact Bd.three _ _
/-- what the document's Parse leaves behind the value, and what it answers -/
def endQ (l : List UInt8) (st : QS) : QS := if st.bad = 0 ∧ (tokA l st.at').2 ≠ 6 then failQ l (if (tokA l st.at').2 = 0 then 3 else (tokA l st.at').2) st else st
def docP (l : List UInt8) (depth : Int) : JV × Nat × Int :=
  if (endQ l (valQ l (2 * l.length + 1) (min depth 16) ⟨0, 0, 0⟩).2).bad ≠ 0 then (zV, (endQ l (valQ l (2 * l.length + 1) (min depth 16) ⟨0, 0, 0⟩).2).pos, (endQ l (valQ l (2 * l.length + 1) (min depth 16) ⟨0, 0, 0⟩).2).bad)
  else ((valQ l (2 * l.length + 1) (min depth 16) ⟨0, 0, 0⟩).1, l.length, 0)
theorem endQ_b {l : List UInt8} {st : QS} (h : st.bad ≠ 0) : endQ l st = st := by unfold endQ; rw [if_neg (fun g => h g.1)]
theorem doc_is (l : List UInt8) (depth : Int) : docP l depth = parseP l depth := by
  have ev := (eqv l (2 * l.length + 1)).1 (min depth 16) 0 0 (Nat.zero_le _) (by omega)
  have bad : ∀ e : Er, Bd (valQ l (2 * l.length + 1) (min depth 16) ⟨0, 0, 0⟩).2 e → docP l depth = (zV, e.1, er6 e.2) := fun e hB => by
    unfold docP
    rw [endQ_b hB.ne, if_pos hB.ne, hB.1, hB.2.1]
  unfold parseP whole
  cases hx : nx l 0 with
  | error e =>
    have h1 := ev.1 e hx
    exact bad e (by rw [h1]; exact Bd.mk' _ (nx_n hx).2.2.2)
  | ok t =>
    have hb := nx_ok (Nat.zero_le _) hx
    dsimp only
    cases hv : pv l (2 * l.length + 1) (min depth 16) t with
    | error e => exact bad e ((ev.2 t hx).2 e hv)
    | ok r =>
      have h1 := (ev.2 t hx).1 r hv
      obtain ⟨_, hr, _⟩ := (read_ok l (2 * l.length + 1)).1 _ t r hb.2 hv
      dsimp only
      unfold docP
      rw [h1]
      dsimp only
      cases hy : nx l r.2 with
      | error e =>
        have he : e = (endP blkB l r.2, (tokA l r.2).2) := by
          unfold nx at hy
          split at hy
          · cases hy
          · cases hy; rfl
        have hne := (nx_n hy).2.2.2
        dsimp only
        by_cases h6 : e.2 = 6
        · have hq : endQ l ⟨r.2, 0, 0⟩ = ⟨r.2, 0, 0⟩ := by
            unfold endQ; rw [if_neg (fun g => g.2 (by show (tokA l r.2).2 = 6; rw [he] at h6; exact h6))]
          rw [hq, if_neg (by simp), if_pos h6]
        · have hq : endQ l ⟨r.2, 0, 0⟩ = ⟨r.2, e.2, e.1⟩ := by
            rw [he] at h6 hne ⊢
            unfold endQ
            rw [if_pos ⟨rfl, h6⟩]
            unfold failQ
            rw [if_pos rfl, if_neg hne]
          rw [hq, if_pos hne, if_neg h6]
          dsimp only
          rw [if_neg h6]
      | ok u =>
        obtain ⟨y1, y2, y3⟩ := nx_y hy
        have h0 : (tokA l r.2).2 = 0 := by
          unfold nx at hy
          by_cases h0 : (tokA l r.2).2 = 0
          · exact h0
          · rw [if_neg h0] at hy; cases hy
        have hq : endQ l ⟨r.2, 0, 0⟩ = ⟨r.2, 3, u.a⟩ := by
          unfold endQ
          rw [if_pos ⟨rfl, by show (tokA l r.2).2 ≠ 6; rw [h0]; decide⟩]
          unfold failQ
          rw [if_pos rfl, if_pos h0, y3]
        rw [hq, if_pos (by simp)]
        rfl
end Go.Proofs.YtpgllcdcpdeicaaGreatDoor.Jv
namespace Go.Proofs.YtpgllcdcpdeicaaGreatDoor.Jv
open Jt
open Go.RowKit Go.ChangeMaps Go.MapKept Go.WideMaps
set_option linter.unusedSimpArgs false
set_option linter.unusedVariables false

abbrev obQ (s : ByteArray) (st : QS) : Obj := .cells #[.string s, .int .i64 (st.at' : Int), .int .i64 st.bad, .int .i64 (st.pos : Int)] 51
theorem cells4q {w : World} {g : Nat} {s : ByteArray} {a p : Nat} {b : Int} (h : w.heap[g]? = some (obQ s ⟨a, b, p⟩)) : w.cell? ⟨g, 0, none⟩ = some (.string s) ∧ w.cell? ⟨g, 1, none⟩ = some (.int .i64 (a : Int)) ∧ w.cell? ⟨g, 2, none⟩ = some (.int .i64 b) ∧ w.cell? ⟨g, 3, none⟩ = some (.int .i64 (p : Int)) :=
  ⟨cell_of_row _ _ 0 _ _ _ h, cell_of_row _ _ 1 _ _ _ h, cell_of_row _ _ 2 _ _ _ h, cell_of_row _ _ 3 _ _ _ h⟩
set_option maxRecDepth 100000 in
set_option maxHeartbeats 1000000 in
theorem here_c (s : ByteArray) (a : Nat) (b : Int) (p g : Nat) (w : World) (h : w.heap[g]? = some (obQ s ⟨a, b, p⟩)) (hs : s.size ≤ 1000) (ha : a ≤ s.size) :
    Calls Tryz.prog 32 #[.pointer (some ⟨g, 0, none⟩)] w fun e w' => e = .returned (.int .i64 (endP blkB s.data.toList a : Nat)) ∧ w = w' := by
  have hsl := Lib.hid (Lib.size_eq s)
  obtain ⟨c0, c1, c2, c3⟩ := cells4q h
  clear h
  go_enter Tryz.func32, Tryz.ntmps32
  go_wp2
  go_loop [3] (fun i => ∃ k : Nat, k ≤ s.size ∧ i = .int .i64 k ∧ Hid (endP blkB s.data.toList k = endP blkB s.data.toList a)) (fun i => s.size - (intOf i).toNat)
  case atStart => exact ⟨a, ha, rfl, Lib.hid rfl⟩
  case round =>
    obtain ⟨k, hk, rfl, HA⟩ := hrel
    have hk0 : (0 : Int) ≤ (k : Int) := by omega
    by_cases hlt : k < s.size
    · have hl : k < s.data.toList.length := by rw [← hsl.out]; exact hlt
      have hlt' : (k : Int) < (s.size : Int) := by omega
      have HY := Lib.hid (@endP_yes blkB s.data.toList k hl)
      have HN := Lib.hid (@endP_no blkB s.data.toList k hl)
      have he : blkB s.data.toList[k] = blkI (s[k].toNat : Int) := by rw [data_at hlt hl]; rfl
      rw [he] at HY HN
      have HC := Lib.hid (fun W => blank_r (s[k].toNat : Int) W)
      clear he
      cases hb : blkI (s[k].toNat : Int) with
      | true =>
        rw [hb] at HC HY HN
        have HZ := Lib.hid (HY.out rfl)
        clear hb HY HN
        go_wp2_with (go_at_call 27; refine (HC.out _).mono ?_; rintro e w' ⟨rfl, rfl⟩)
        go_round
        case rel => exact ⟨k + 1, by omega, by go_num, Lib.hid (HZ.out.trans HA.out)⟩
        case measure => simp [intOf]; omega
      | false =>
        rw [hb] at HC HY HN
        have HZ := Lib.hid (HN.out rfl)
        clear hb HY HN
        go_wp2_with (go_at_call 27; refine (HC.out _).mono ?_; rintro e w' ⟨rfl, rfl⟩)
        go_ret
        exact ⟨by rw [← HA.out, HZ.out]; rfl, rfl⟩
    · have hlt' : ¬ (k : Int) < (s.size : Int) := by omega
      have hks : k = s.size := by omega
      have HE : Hid (endP blkB s.data.toList a = k) := by show _ = _; rw [← HA.out, endP_end (by rw [← hsl.out]; omega)]
      clear hks
      go_wp2
      go_ret
      exact ⟨by rw [HE.out]; rfl, rfl⟩
set_option maxRecDepth 100000 in
set_option maxHeartbeats 1000000 in
theorem fail_0 (s : ByteArray) (a p g : Nat) (e : Int) (w : World) (h : w.heap[g]? = some (obQ s ⟨a, 0, p⟩)) (hs : s.size ≤ 1000) (ha : a ≤ s.size) :
    Calls Tryz.prog 14 #[.pointer (some ⟨g, 0, none⟩), .int .i64 e] w fun r w' => r = .returned (.tuple #[]) ∧ w'.heap[g]? = some (obQ s ⟨a, e, endP blkB s.data.toList a⟩) ∧ w.grownBy w' (some g) := by
  obtain ⟨w1, hw1⟩ : ∃ w1, w1 = w.setCell ⟨g, 2, none⟩ (.int .i64 e) := ⟨_, rfl⟩
  have HK1 : Hid (w1.heap[g]? = some (obQ s ⟨a, e, p⟩)) := by
    rw [hw1]; have := blk_set h 2 (.int .i64 e); exact Lib.hid (by simpa using this)
  have HG1 : Hid (w.grownBy w1 (some g)) := by rw [hw1]; exact Lib.hid (gb_set w g 2 _)
  have HW1 := Lib.hid hw1
  have HC := Lib.hid (here_c s a e p g w1 HK1.out hs ha)
  obtain ⟨c0, c1, c2, c3⟩ := cells4q h
  have f2 := frz h 2
  clear h hw1
  go_enter Tryz.func14, Tryz.ntmps14
  go_upto_region 2 with (fail)
  rw [← HW1.out]
  clear c0 c1 c2 c3 f2
  have f3 := frz HK1.out 3
  obtain ⟨c0, c1, c2, c3⟩ := cells4q HK1.out
  have HF : Hid ((w1.setCell ⟨g, 3, none⟩ (.int .i64 (endP blkB s.data.toList a : Nat))).heap[g]? = some (obQ s ⟨a, e, endP blkB s.data.toList a⟩)) := by
    have := blk_set HK1.out 3 (.int .i64 (endP blkB s.data.toList a : Nat)); exact Lib.hid (by simpa using this)
  have HGF := Lib.hid (gb_trans HG1.out (gb_set w1 g 3 (.int .i64 (endP blkB s.data.toList a : Nat))))
  go_wp2_with (go_at_call 32; (with_reducible refine HC.out.mono ?_); rintro r w' ⟨rfl, rfl⟩)
  go_end0
  exact ⟨rfl, HF.out, HGF.out⟩
set_option maxRecDepth 100000 in
set_option maxHeartbeats 1000000 in
theorem fail_1 (s : ByteArray) (a p g : Nat) (b e : Int) (w : World) (h : w.heap[g]? = some (obQ s ⟨a, b, p⟩)) (hb : b ≠ 0) :
    Calls Tryz.prog 14 #[.pointer (some ⟨g, 0, none⟩), .int .i64 e] w fun r w' => r = .returned (.tuple #[]) ∧ w' = w := by
  obtain ⟨c0, c1, c2, c3⟩ := cells4q h
  have e1 : (b == 0) = false := by simpa using hb
  clear h
  go_enter Tryz.func14, Tryz.ntmps14
  go_wp2
  go_end0
  exact ⟨rfl, rfl⟩
/-- what the reader's block is behind a call, and what else stays -/
def QsQ (g : Nat) (s : ByteArray) (st : QS) (w : World) (w' : World) : Prop := w'.heap[g]? = some (obQ s st) ∧ w.grownBy w' (some g)
theorem fail_c (s : ByteArray) (st : QS) (g : Nat) (e : Int) (w : World) (h : w.heap[g]? = some (obQ s st)) (hs : s.size ≤ 1000) (ha : st.at' ≤ s.size) :
    Calls Tryz.prog 14 #[.pointer (some ⟨g, 0, none⟩), .int .i64 e] w fun r w' => r = .returned (.tuple #[]) ∧ QsQ g s (failQ s.data.toList e st) w w' := by
  obtain ⟨a, b, p⟩ := st
  unfold failQ
  by_cases hb : b = 0
  · subst hb
    rw [if_pos rfl]
    exact (fail_0 s a p g e w h hs ha).mono fun r w' hh => hh
  · rw [if_neg hb]
    refine (fail_1 s a p g b e w h hb).mono fun r w' hh => ?_
    obtain ⟨h1, rfl⟩ := hh
    exact ⟨h1, h, gb_below (Below.refl _ _)⟩
end Go.Proofs.YtpgllcdcpdeicaaGreatDoor.Jv
namespace Go.Proofs.YtpgllcdcpdeicaaGreatDoor.Jv
open Jt
open Go.RowKit Go.ChangeMaps Go.MapKept Go.WideMaps
set_option linter.unusedSimpArgs false
set_option linter.unusedVariables false

abbrev obK (k ta tb : Int) (tx : ByteArray) (tn : Int) : Obj := .cells #[.int .i64 k, .int .i64 ta, .int .i64 tb, .string tx, .int .i64 tn] 54
theorem newK (w : World) (k ta tb : Int) (tx : ByteArray) (tn : Int) : ∃ W, W = w.alloc (obK k ta tb tx tn) ∧ W.heap[w.heap.size]? = some (obK k ta tb tx tn) ∧ Below w.heap.size w W := ⟨_, rfl, heap_alloc_new w _, (Below.refl _ _).alloc (Nat.le_refl _) _⟩
abbrev Rq (g : Nat) (s : ByteArray) (st : QS) (w : World) : Prop := w.heap[g]? = some (obQ s st)
set_option maxRecDepth 100000 in
set_option maxHeartbeats 1000000 in
theorem peek_k (g a p : Nat) (b : Int) (s tx : ByteArray) (k ta tb tn te : Int) (w : World) (hR : w.heap[g]? = some (obQ s ⟨a, b, p⟩))
    (HN : Hid (∀ W, Calls Tryz.prog 13 #[.string s, .int .i64 (a : Int)] W fun e w' => e = .returned (.tuple #[.agg #[.int .i64 k, .int .i64 ta, .int .i64 tb, .string tx, .int .i64 tn], .int .i64 te]) ∧ Below W.heap.size W w')) :
    Calls Tryz.prog 25 #[.pointer (some ⟨g, 0, none⟩)] w fun e w' => e = .returned (.tuple #[.agg #[.int .i64 k, .int .i64 ta, .int .i64 tb, .string tx, .int .i64 tn], .int .i64 (er6 te)]) ∧ Below w.heap.size w w' := by
  obtain ⟨W0, hW0, hk0, hb0⟩ := newK w 0 0 0 ⟨#[]⟩ 0
  have hgl : g < w.heap.size := (Array.getElem?_eq_some_iff.1 hR).1
  have HW0 := Lib.hid hW0
  have HK0 := Lib.hid hk0
  have HB0 := Lib.hid hb0
  have hR0 : W0.heap[g]? = some (obQ s ⟨a, b, p⟩) := (hb0.block _ hgl).trans hR
  have hz0 : w.heap.size < W0.heap.size := (Array.getElem?_eq_some_iff.1 hk0).1
  obtain ⟨W1, hW1, hk1, hb1⟩ := newK W0 0 0 0 ⟨#[]⟩ 0
  have hz1 : W0.heap.size < W1.heap.size := (Array.getElem?_eq_some_iff.1 hk1).1
  have HK1 : Hid (W1.heap[w.heap.size]? = some (obK 0 0 0 ⟨#[]⟩ 0)) := (hb1.block _ hz0).trans hk0
  have HX1 := Lib.hid hk1
  have HB1 : Hid (Below w.heap.size w W1) := hb0.trans (hb1.mono (Nat.le_of_lt hz0))
  have HW1 := Lib.hid hW1
  have HSK : Hid (∀ V : World, Below W0.heap.size W0 V → V.cell? ⟨g, 0, none⟩ = some (.string s) ∧ V.cell? ⟨g, 1, none⟩ = some (.int .i64 (a : Int))) := fun V hV => by
    have h := (hV.block g (by omega)).trans hR0
    exact ⟨cell_of_row _ _ 0 _ _ _ h, cell_of_row _ _ 1 _ _ _ h⟩
  obtain ⟨c0, c1⟩ := HSK.out W0 (Below.refl _ _)
  have HKA := Lib.hid (HSK.out W0.drew ((Below.refl _ _).drew))
  have HKB := Lib.hid (HSK.out W1.drew (Below.drew hb1))
  rw [hW1] at HKB
  have HB01 := Lib.hid hb1
  clear hW0 hk0 hb0 hR0 hW1 hk1 hb1 hR
  go_enter Tryz.func25, Tryz.ntmps25
  go_wp2_with fail
  rw [← HW0.out]
  go_region_held3 (fun V => V.cell? ⟨g, 0, none⟩ = some (.string s) ∧ V.cell? ⟨g, 1, none⟩ = some (.int .i64 (a : Int)))
    (first | (with_reducible exact HKA.out) | (with_reducible exact HKB.out) | (with_reducible exact HK3.out) | (with_reducible exact HK3a.out) | (with_reducible exact HK3r.out) | (with_reducible exact HK3s.out) | (with_reducible exact HK4.out) | (with_reducible exact HK4s.out))
    (first
      | (go_at_call 13; (with_reducible refine (HN.out W0.drew).mono ?_); rintro e w3 ⟨rfl, hb3⟩; have hb3' : Below W0.heap.size W0 w3 := ⟨hb3.os, hb3.tape, hb3.output, hb3.size, hb3.block⟩; have HT3 : Hid (w3.heap[w.heap.size]? = some (obK 0 0 0 ⟨#[]⟩ 0)) := (hb3'.block _ hz0).trans HK0.out; have HB3 : Hid (Below w.heap.size w w3) := HB0.out.trans (hb3'.mono (Nat.le_of_lt hz0)); have hs3 := hb3'.size; have HK3 := Lib.hid (HSK.out w3 hb3'); have HK3a := Lib.hid (HSK.out (w3.alloc (.cells #[.int .i64 0, .int .i64 0, .int .i64 0, .string ⟨#[]⟩, .int .i64 0] 54)) (hb3'.alloc hb3'.size _)); have HK3r := Lib.hid (HSK.out (w3.alloc (.cells #[.int .i64 k, .int .i64 ta, .int .i64 tb, .string tx, .int .i64 tn] 54)) (hb3'.alloc hb3'.size _)); have HK3s := Lib.hid (HSK.out _ ((hb3'.alloc hb3'.size (.cells #[.int .i64 0, .int .i64 0, .int .i64 0, .string ⟨#[]⟩, .int .i64 0] 54)).trans (bel_set5 (B := W0.heap.size) (r := w3.heap.size) (w3.alloc (.cells #[.int .i64 0, .int .i64 0, .int .i64 0, .string ⟨#[]⟩, .int .i64 0] 54)) hb3'.size (.int .i64 k) (.int .i64 ta) (.int .i64 tb) (.string tx) (.int .i64 tn)))); clear hb3 hb3')
      | (go_at_call 13; rw [← HW1.out]; (with_reducible refine (HN.out W1.drew).mono ?_); rintro e w4 ⟨rfl, hb4⟩; have hb4' : Below W1.heap.size W1 w4 := ⟨hb4.os, hb4.tape, hb4.output, hb4.size, hb4.block⟩; have hb04 : Below W0.heap.size W0 w4 := HB01.out.trans (hb4'.mono (Nat.le_of_lt hz1)); have HT4 : Hid (w4.heap[w.heap.size]? = some (obK 0 0 0 ⟨#[]⟩ 0)) := (hb4'.block _ (Nat.lt_trans hz0 hz1)).trans HK1.out; have HN4 : Hid (w4.heap[W0.heap.size]? = some (obK 0 0 0 ⟨#[]⟩ 0)) := (hb4'.block _ hz1).trans HX1.out; have HB4 : Hid (Below w.heap.size w w4) := HB1.out.trans (hb4'.mono (Nat.le_of_lt (Nat.lt_trans hz0 hz1))); have n0 := cell_of_row _ _ 0 _ _ _ HN4.out; have n1 := cell_of_row _ _ 1 _ _ _ HN4.out; have n2 := cell_of_row _ _ 2 _ _ _ HN4.out; have n3 := cell_of_row _ _ 3 _ _ _ HN4.out; have n4 := cell_of_row _ _ 4 _ _ _ HN4.out; have f0 := frz HN4.out 0; have f1 := frz HN4.out 1; have f2 := frz HN4.out 2; have f3 := frz HN4.out 3; have f4 := frz HN4.out 4; have HK4 := Lib.hid (HSK.out w4 hb04); have HK4s := Lib.hid (HSK.out _ (hb04.trans (bel_set5 (B := W0.heap.size) (r := W0.heap.size) w4 (Nat.le_refl _) (.int .i64 k) (.int .i64 ta) (.int .i64 tb) (.string tx) (.int .i64 tn)))); clear hb4 hb4' hb04))
  · have HTX : Hid ((w3.alloc (.cells #[.int .i64 k, .int .i64 ta, .int .i64 tb, .string tx, .int .i64 tn] 54)).heap[w.heap.size]? = some (obK 0 0 0 ⟨#[]⟩ 0)) := (((Below.refl w3.heap.size w3).alloc (Nat.le_refl _) _).block _ (Array.getElem?_eq_some_iff.1 HT3.out).1).trans HT3.out
    have HBX : Hid (Below w.heap.size w (w3.alloc (.cells #[.int .i64 k, .int .i64 ta, .int .i64 tb, .string tx, .int .i64 tn] 54))) := HB3.out.alloc HB3.out.size _
    have HRX : Hid ((w3.alloc (.cells #[.int .i64 k, .int .i64 ta, .int .i64 tb, .string tx, .int .i64 tn] 54)).heap[w3.heap.size]? = some (obK k ta tb tx tn)) := heap_alloc_new w3 _
    have hlw : w.heap.size < w3.heap.size := (Array.getElem?_eq_some_iff.1 HT3.out).1
    clear c0 c1 HK3 HK3a HK3r HK3s HKA HKB
    generalize (w3.alloc (.cells #[.int .i64 k, .int .i64 ta, .int .i64 tb, .string tx, .int .i64 tn] 54)) = wx at HTX HBX HRX ⊢
    generalize hrb : w3.heap.size = rb at HRX hlw ⊢
    have hrn : w.heap.size ≠ rb := by omega
    clear hrb
    obtain ⟨r0, r1, r2, r3, r4⟩ := cells5 HRX.out
    obtain ⟨t0, t1, t2, t3, t4⟩ := cells5 HTX.out
    have z0 := frz HTX.out 0
    have z1 := frz HTX.out 1
    have z2 := frz HTX.out 2
    have z3 := frz HTX.out 3
    have z4 := frz HTX.out 4
    have HH := Lib.hid (set5 HTX.out (.int .i64 k) (.int .i64 ta) (.int .i64 tb) (.string tx) (.int .i64 tn))
    have HBF := Lib.hid (HBX.out.trans (bel_set5 (B := w.heap.size) (r := w.heap.size) wx (Nat.le_refl _) (.int .i64 k) (.int .i64 ta) (.int .i64 tb) (.string tx) (.int .i64 tn)))
    by_cases h6 : te = 6
    · have e1 : (te == 6) = true := by simpa using h6
      have HER : Hid (er6 te = 3) := by show _ = _; unfold er6; rw [if_pos h6]
      clear h6
      go_wp2
      obtain ⟨d0, d1, d2, d3, d4⟩ := cells5 HH.out
      clear r0 r1 r2 r3 r4 t0 t1 t2 t3 t4 z0 z1 z2 z3 z4
      (with_reducible refine bodyPost_ret (v := .tuple #[.agg #[.int .i64 k, .int .i64 ta, .int .i64 tb, .string tx, .int .i64 tn], .int .i64 3]) (by simp [results, Tryz.results25, go_sem, d0, d1, d2, d3, d4]) rfl ⟨by rw [HER.out], HBF.out⟩)
    · have e1 : (te == 6) = false := by simpa using h6
      have HER : Hid (er6 te = te) := by show _ = _; unfold er6; rw [if_neg h6]
      clear h6
      go_wp2
      obtain ⟨d0, d1, d2, d3, d4⟩ := cells5 HH.out
      clear r0 r1 r2 r3 r4 t0 t1 t2 t3 t4 z0 z1 z2 z3 z4
      (with_reducible refine bodyPost_ret (v := .tuple #[.agg #[.int .i64 k, .int .i64 ta, .int .i64 tb, .string tx, .int .i64 tn], .int .i64 te]) (by simp [results, Tryz.results25, go_sem, d0, d1, d2, d3, d4]) rfl ⟨by rw [HER.out], HBF.out⟩)
  · have HTX : Hid (((((((w4.setCell ⟨W0.heap.size, 0, none⟩ (.int .i64 k)).setCell ⟨W0.heap.size, 1, none⟩ (.int .i64 ta)).setCell ⟨W0.heap.size, 2, none⟩ (.int .i64 tb)).setCell ⟨W0.heap.size, 3, none⟩ (.string tx)).setCell ⟨W0.heap.size, 4, none⟩ (.int .i64 tn))).heap[w.heap.size]? = some (obK 0 0 0 ⟨#[]⟩ 0)) := ((bel_set5 (B := W0.heap.size) w4 (Nat.le_refl _) _ _ _ _ _).block _ hz0).trans HT4.out
    have HBX : Hid (Below w.heap.size w ((((((w4.setCell ⟨W0.heap.size, 0, none⟩ (.int .i64 k)).setCell ⟨W0.heap.size, 1, none⟩ (.int .i64 ta)).setCell ⟨W0.heap.size, 2, none⟩ (.int .i64 tb)).setCell ⟨W0.heap.size, 3, none⟩ (.string tx)).setCell ⟨W0.heap.size, 4, none⟩ (.int .i64 tn)))) := HB4.out.trans (bel_set5 w4 (Nat.le_of_lt hz0) _ _ _ _ _)
    have HRX : Hid (((((((w4.setCell ⟨W0.heap.size, 0, none⟩ (.int .i64 k)).setCell ⟨W0.heap.size, 1, none⟩ (.int .i64 ta)).setCell ⟨W0.heap.size, 2, none⟩ (.int .i64 tb)).setCell ⟨W0.heap.size, 3, none⟩ (.string tx)).setCell ⟨W0.heap.size, 4, none⟩ (.int .i64 tn))).heap[W0.heap.size]? = some (obK k ta tb tx tn)) := set5 HN4.out _ _ _ _ _
    have hlw : w.heap.size < W0.heap.size := hz0
    clear c0 c1 n0 n1 n2 n3 n4 f0 f1 f2 f3 f4 HK4 HK4s HKA HKB
    generalize ((((((w4.setCell ⟨W0.heap.size, 0, none⟩ (.int .i64 k)).setCell ⟨W0.heap.size, 1, none⟩ (.int .i64 ta)).setCell ⟨W0.heap.size, 2, none⟩ (.int .i64 tb)).setCell ⟨W0.heap.size, 3, none⟩ (.string tx)).setCell ⟨W0.heap.size, 4, none⟩ (.int .i64 tn))) = wx at HTX HBX HRX ⊢
    generalize hrb : W0.heap.size = rb at HRX hlw ⊢
    have hrn : w.heap.size ≠ rb := by omega
    clear hrb
    obtain ⟨r0, r1, r2, r3, r4⟩ := cells5 HRX.out
    obtain ⟨t0, t1, t2, t3, t4⟩ := cells5 HTX.out
    have z0 := frz HTX.out 0
    have z1 := frz HTX.out 1
    have z2 := frz HTX.out 2
    have z3 := frz HTX.out 3
    have z4 := frz HTX.out 4
    have HH := Lib.hid (set5 HTX.out (.int .i64 k) (.int .i64 ta) (.int .i64 tb) (.string tx) (.int .i64 tn))
    have HBF := Lib.hid (HBX.out.trans (bel_set5 (B := w.heap.size) (r := w.heap.size) wx (Nat.le_refl _) (.int .i64 k) (.int .i64 ta) (.int .i64 tb) (.string tx) (.int .i64 tn)))
    by_cases h6 : te = 6
    · have e1 : (te == 6) = true := by simpa using h6
      have HER : Hid (er6 te = 3) := by show _ = _; unfold er6; rw [if_pos h6]
      clear h6
      go_wp2
      obtain ⟨d0, d1, d2, d3, d4⟩ := cells5 HH.out
      clear r0 r1 r2 r3 r4 t0 t1 t2 t3 t4 z0 z1 z2 z3 z4
      (with_reducible refine bodyPost_ret (v := .tuple #[.agg #[.int .i64 k, .int .i64 ta, .int .i64 tb, .string tx, .int .i64 tn], .int .i64 3]) (by simp [results, Tryz.results25, go_sem, d0, d1, d2, d3, d4]) rfl ⟨by rw [HER.out], HBF.out⟩)
    · have e1 : (te == 6) = false := by simpa using h6
      have HER : Hid (er6 te = te) := by show _ = _; unfold er6; rw [if_neg h6]
      clear h6
      go_wp2
      obtain ⟨d0, d1, d2, d3, d4⟩ := cells5 HH.out
      clear r0 r1 r2 r3 r4 t0 t1 t2 t3 t4 z0 z1 z2 z3 z4
      (with_reducible refine bodyPost_ret (v := .tuple #[.agg #[.int .i64 k, .int .i64 ta, .int .i64 tb, .string tx, .int .i64 tn], .int .i64 te]) (by simp [results, Tryz.results25, go_sem, d0, d1, d2, d3, d4]) rfl ⟨by rw [HER.out], HBF.out⟩)
theorem peek_c (s : ByteArray) (st : QS) (g : Nat) (w : World) (h : w.heap[g]? = some (obQ s st)) (hs : s.size ≤ 1000) (ha : st.at' ≤ s.size) :
    Calls Tryz.prog 25 #[.pointer (some ⟨g, 0, none⟩)] w fun e w' => e = ret2 (tkV (tokA s.data.toList st.at').1) (pkE s.data.toList st.at') ∧ Below w.heap.size w w' := by
  obtain ⟨a, b, p⟩ := st
  exact peek_k g a p b s _ _ _ _ _ _ w h (Lib.hid fun W => nextR_c s a W hs ha)
end Go.Proofs.YtpgllcdcpdeicaaGreatDoor.Jv
namespace Go.Proofs.YtpgllcdcpdeicaaGreatDoor.Jv
open Jt
open Go.RowKit Go.ChangeMaps Go.MapKept Go.WideMaps
set_option linter.unusedSimpArgs false
set_option linter.unusedVariables false

theorem btr1 {a b d : World} (h : Below a.heap.size a b) (k : Below b.heap.size b d) : Below a.heap.size a d := h.trans (k.mono h.size)
set_option maxRecDepth 100000 in
set_option maxHeartbeats 1000000 in
theorem is_b (s : ByteArray) (a p g k tk ta tb : Nat) (b : Int) (tt : List UInt8) (tn pe : Int) (w : World) (h : w.heap[g]? = some (obQ s ⟨a, b, p⟩)) (hb : b ≠ 0)
    (HP : Hid (Calls Tryz.prog 25 #[.pointer (some ⟨g, 0, none⟩)] w fun e w' => e = .returned (.tuple #[.agg #[.int .i64 (tk : Int), .int .i64 (ta : Int), .int .i64 (tb : Int), .string (mkS tt), .int .i64 tn], .int .i64 pe]) ∧ Below w.heap.size w w')) :
    Calls Tryz.prog 41 #[.pointer (some ⟨g, 0, none⟩), .int .i64 (k : Int)] w fun e w' => e = .returned (.bool false) ∧ QsQ g s ⟨a, b, p⟩ w w' := by
  have hR := Lib.hid h
  have hgl : g < w.heap.size := (Array.getElem?_eq_some_iff.1 h).1
  have e1 : (b == 0) = false := by simpa using hb
  have e2 : (b != 0) = true := by rw [bne, e1]; rfl
  clear hb
  clear h
  go_enter Tryz.func41, Tryz.ntmps41
  go_upto_region 1 with (fail)
  go_upto_region 2 with (go_at_call 25; (with_reducible refine HP.out.mono ?_); rintro e w1 ⟨rfl, hb1⟩; have HB1 := Lib.hid hb1; clear hb1)
  have hR1 := (HB1.out.block _ hgl).trans hR.out
  obtain ⟨W2, hW2, hk2, hb2⟩ := newK w1 tk ta tb (mkS tt) tn
  have HW2 := Lib.hid hW2
  have HB2 := Lib.hid (btr1 HB1.out hb2)
  have HR2 := Lib.hid ((hb2.block _ (Nat.lt_of_lt_of_le hgl HB1.out.size)).trans hR1)
  have HT2 := Lib.hid hk2
  clear hR1 hW2 hk2 hb2
  rw [← HW2.out]
  obtain ⟨c0, c1, c2, c3⟩ := cells4q HR2.out
  obtain ⟨t0, t1, t2, t3, t4⟩ := cells5 HT2.out
  go_wp2
  go_ret
  exact ⟨rfl, HR2.out, gb_below HB2.out⟩
set_option maxRecDepth 100000 in
set_option maxHeartbeats 1000000 in
theorem is_p (s : ByteArray) (a p g k tk ta tb : Nat) (b : Int) (tt : List UInt8) (tn pe : Int) (w : World) (h : w.heap[g]? = some (obQ s ⟨a, b, p⟩)) (hb : b = 0) (hp : pe ≠ 0)
    (HP : Hid (Calls Tryz.prog 25 #[.pointer (some ⟨g, 0, none⟩)] w fun e w' => e = .returned (.tuple #[.agg #[.int .i64 (tk : Int), .int .i64 (ta : Int), .int .i64 (tb : Int), .string (mkS tt), .int .i64 tn], .int .i64 pe]) ∧ Below w.heap.size w w')) :
    Calls Tryz.prog 41 #[.pointer (some ⟨g, 0, none⟩), .int .i64 (k : Int)] w fun e w' => e = .returned (.bool false) ∧ QsQ g s ⟨a, 0, p⟩ w w' := by
  have hR := Lib.hid h
  have hgl : g < w.heap.size := (Array.getElem?_eq_some_iff.1 h).1
  subst hb
  have e1 : (pe == 0) = false := by simpa using hp
  have e2 : (pe != 0) = true := by rw [bne, e1]; rfl
  clear hp
  clear h
  go_enter Tryz.func41, Tryz.ntmps41
  go_upto_region 1 with (fail)
  go_upto_region 2 with (go_at_call 25; (with_reducible refine HP.out.mono ?_); rintro e w1 ⟨rfl, hb1⟩; have HB1 := Lib.hid hb1; clear hb1)
  have hR1 := (HB1.out.block _ hgl).trans hR.out
  obtain ⟨W2, hW2, hk2, hb2⟩ := newK w1 tk ta tb (mkS tt) tn
  have HW2 := Lib.hid hW2
  have HB2 := Lib.hid (btr1 HB1.out hb2)
  have HR2 := Lib.hid ((hb2.block _ (Nat.lt_of_lt_of_le hgl HB1.out.size)).trans hR1)
  have HT2 := Lib.hid hk2
  clear hR1 hW2 hk2 hb2
  rw [← HW2.out]
  obtain ⟨c0, c1, c2, c3⟩ := cells4q HR2.out
  obtain ⟨t0, t1, t2, t3, t4⟩ := cells5 HT2.out
  go_wp2
  go_ret
  exact ⟨rfl, HR2.out, gb_below HB2.out⟩
set_option maxRecDepth 100000 in
set_option maxHeartbeats 1000000 in
theorem is_o (s : ByteArray) (a p g k tk ta tb : Nat) (b : Int) (tt : List UInt8) (tn pe : Int) (w : World) (h : w.heap[g]? = some (obQ s ⟨a, b, p⟩)) (hb : b = 0) (hp : pe = 0) (hk : tk ≠ k)
    (HP : Hid (Calls Tryz.prog 25 #[.pointer (some ⟨g, 0, none⟩)] w fun e w' => e = .returned (.tuple #[.agg #[.int .i64 (tk : Int), .int .i64 (ta : Int), .int .i64 (tb : Int), .string (mkS tt), .int .i64 tn], .int .i64 pe]) ∧ Below w.heap.size w w')) :
    Calls Tryz.prog 41 #[.pointer (some ⟨g, 0, none⟩), .int .i64 (k : Int)] w fun e w' => e = .returned (.bool false) ∧ QsQ g s ⟨a, 0, p⟩ w w' := by
  have hR := Lib.hid h
  have hgl : g < w.heap.size := (Array.getElem?_eq_some_iff.1 h).1
  subst hb hp
  have e1 : ((tk : Int) == (k : Int)) = false := by simpa using (by omega : ¬ (tk : Int) = (k : Int))
  have e2 : ((tk : Int) != (k : Int)) = true := by rw [bne, e1]; rfl
  clear hk
  clear h
  go_enter Tryz.func41, Tryz.ntmps41
  go_upto_region 1 with (fail)
  go_upto_region 2 with (go_at_call 25; (with_reducible refine HP.out.mono ?_); rintro e w1 ⟨rfl, hb1⟩; have HB1 := Lib.hid hb1; clear hb1)
  have hR1 := (HB1.out.block _ hgl).trans hR.out
  obtain ⟨W2, hW2, hk2, hb2⟩ := newK w1 tk ta tb (mkS tt) tn
  have HW2 := Lib.hid hW2
  have HB2 := Lib.hid (btr1 HB1.out hb2)
  have HR2 := Lib.hid ((hb2.block _ (Nat.lt_of_lt_of_le hgl HB1.out.size)).trans hR1)
  have HT2 := Lib.hid hk2
  clear hR1 hW2 hk2 hb2
  rw [← HW2.out]
  obtain ⟨c0, c1, c2, c3⟩ := cells4q HR2.out
  obtain ⟨t0, t1, t2, t3, t4⟩ := cells5 HT2.out
  go_wp2
  go_ret
  exact ⟨rfl, HR2.out, gb_below HB2.out⟩
set_option maxRecDepth 100000 in
set_option maxHeartbeats 1000000 in
theorem is_y (s : ByteArray) (a p g k tk ta tb : Nat) (b : Int) (tt : List UInt8) (tn pe : Int) (w : World) (h : w.heap[g]? = some (obQ s ⟨a, b, p⟩)) (hb : b = 0) (hp : pe = 0) (hk : tk = k)
    (HP : Hid (Calls Tryz.prog 25 #[.pointer (some ⟨g, 0, none⟩)] w fun e w' => e = .returned (.tuple #[.agg #[.int .i64 (tk : Int), .int .i64 (ta : Int), .int .i64 (tb : Int), .string (mkS tt), .int .i64 tn], .int .i64 pe]) ∧ Below w.heap.size w w')) :
    Calls Tryz.prog 41 #[.pointer (some ⟨g, 0, none⟩), .int .i64 (k : Int)] w fun e w' => e = .returned (.bool true) ∧ QsQ g s ⟨tb, 0, p⟩ w w' := by
  have hR := Lib.hid h
  have hgl : g < w.heap.size := (Array.getElem?_eq_some_iff.1 h).1
  subst hb hp hk
  clear h
  go_enter Tryz.func41, Tryz.ntmps41
  go_upto_region 1 with (fail)
  go_upto_region 2 with (go_at_call 25; (with_reducible refine HP.out.mono ?_); rintro e w1 ⟨rfl, hb1⟩; have HB1 := Lib.hid hb1; clear hb1)
  have hR1 := (HB1.out.block _ hgl).trans hR.out
  obtain ⟨W2, hW2, hk2, hb2⟩ := newK w1 tk ta tb (mkS tt) tn
  have HW2 := Lib.hid hW2
  have HB2 := Lib.hid (btr1 HB1.out hb2)
  have HR2 := Lib.hid ((hb2.block _ (Nat.lt_of_lt_of_le hgl HB1.out.size)).trans hR1)
  have HT2 := Lib.hid hk2
  clear hR1 hW2 hk2 hb2
  rw [← HW2.out]
  obtain ⟨c0, c1, c2, c3⟩ := cells4q HR2.out
  obtain ⟨t0, t1, t2, t3, t4⟩ := cells5 HT2.out
  have f1 := frz HR2.out 1
  have HF : Hid ((W2.setCell ⟨g, 1, none⟩ (.int .i64 (tb : Int))).heap[g]? = some (obQ s ⟨tb, 0, p⟩)) := by
    have := blk_set HR2.out 1 (.int .i64 (tb : Int)); exact Lib.hid (by simpa using this)
  have HGF := Lib.hid (gb_trans (gb_below HB2.out) (gb_set W2 g 1 (.int .i64 (tb : Int))))
  go_wp2
  go_ret
  exact ⟨rfl, HF.out, HGF.out⟩
theorem is_c (s : ByteArray) (st : QS) (g k : Nat) (w : World) (h : w.heap[g]? = some (obQ s st)) (hs : s.size ≤ 1000) (ha : st.at' ≤ s.size) :
    Calls Tryz.prog 41 #[.pointer (some ⟨g, 0, none⟩), .int .i64 (k : Int)] w fun e w' => e = .returned (.bool (isQ s.data.toList k st).1) ∧ QsQ g s (isQ s.data.toList k st).2 w w' := by
  have HP := peek_c s st g w h hs ha
  obtain ⟨a, b, p⟩ := st
  unfold isQ
  simp only at HP ⊢
  obtain ⟨x, hx⟩ : ∃ x, tokA s.data.toList a = x := ⟨_, rfl⟩
  obtain ⟨⟨tk, ta, tb, tt, tn⟩, te⟩ := x
  rw [hx] at HP ⊢
  simp only at HP ⊢
  generalize pkE s.data.toList a = pe at HP ⊢
  by_cases hb : b = 0
  · by_cases hp : pe = 0
    · by_cases hk : tk = k
      · rw [if_pos ⟨hb, hp, hk⟩]
        rw [hb] at h ⊢
        exact is_y s a p g k tk ta tb 0 tt tn pe w h rfl hp hk (Lib.hid HP)
      · rw [if_neg (fun g => hk g.2.2)]
        rw [hb] at h ⊢
        exact is_o s a p g k tk ta tb 0 tt tn pe w h rfl hp hk (Lib.hid HP)
    · rw [if_neg (fun g => hp g.2.1)]
      rw [hb] at h ⊢
      exact is_p s a p g k tk ta tb 0 tt tn pe w h rfl hp (Lib.hid HP)
  · rw [if_neg (fun g => hb g.1)]
    exact is_b s a p g k tk ta tb b tt tn pe w h hb (Lib.hid HP)
theorem isQ_f {l : List UInt8} {k : Nat} {st : QS} (h : (isQ l k st).1 = false) : (isQ l k st).2 = st := by
  unfold isQ at h ⊢
  split at h
  · cases h
  · rename_i hc; rw [if_neg hc]
theorem qsq_trans {g : Nat} {s : ByteArray} {st st' : QS} {w w1 w2 : World} (h : QsQ g s st w w1) (k : QsQ g s st' w1 w2) : QsQ g s st' w w2 := ⟨k.1, gb_trans h.2 k.2⟩
set_option maxRecDepth 100000 in
set_option maxHeartbeats 1000000 in
theorem must_c (s : ByteArray) (st : QS) (g k : Nat) (w : World) (h : w.heap[g]? = some (obQ s st)) (hs : s.size ≤ 1000) (ha : st.at' ≤ s.size) :
    Calls Tryz.prog 43 #[.pointer (some ⟨g, 0, none⟩), .int .i64 (k : Int)] w fun e w' => e = .returned (.tuple #[]) ∧ QsQ g s (mustQ s.data.toList k st) w w' := by
  have HI := Lib.hid (is_c s st g k w h hs ha)
  unfold mustQ
  cases hi : (isQ s.data.toList k st).1 with
  | true =>
    rw [hi] at HI
    rw [if_pos rfl]
    clear hi h
    go_enter Tryz.func43, Tryz.ntmps43
    go_wp2_with (go_at_call 41; (with_reducible refine HI.out.mono ?_); rintro e w1 ⟨rfl, hq⟩; have HQ := Lib.hid hq; clear hq)
    go_end0
    exact ⟨rfl, HQ.out⟩
  | false =>
    rw [hi, isQ_f hi] at HI
    rw [isQ_f hi]
    simp only [Bool.false_eq_true, if_false]
    have HP := Lib.hid (fun W (hW : W.heap[g]? = some (obQ s st)) => peek_c s st g W hW hs ha)
    have HF := Lib.hid (fun e W (hW : W.heap[g]? = some (obQ s st)) => fail_c s st g e W hW hs ha)
    unfold ret2 at HP
    obtain ⟨x, hx⟩ : ∃ x, (tokA s.data.toList st.at').1 = x := ⟨_, rfl⟩
    obtain ⟨tk, ta, tb, tt, tn⟩ := x
    rw [hx] at HP
    unfold tkV tokV at HP
    simp only at HP
    generalize pkE s.data.toList st.at' = pe at HP ⊢
    obtain ⟨pf, hpf⟩ : ∃ pf, (if pe = 0 then 3 else pe) = pf := ⟨_, rfl⟩
    rw [hpf]
    have HPF := Lib.hid hpf
    clear hi h hx hpf
    go_enter Tryz.func43, Tryz.ntmps43
    go_upto_region 1 with (go_at_call 41; (with_reducible refine HI.out.mono ?_); rintro e w1 ⟨rfl, hq⟩; have HQ := Lib.hid hq; have HQ1 : Hid (w1.heap[g]? = some (obQ s st)) := hq.1; clear hq)
    go_upto_region 2 with (go_at_call 25; (with_reducible refine (HP.out w1 HQ1.out).mono ?_); rintro e w2 ⟨rfl, hb2⟩; have HB2 := Lib.hid hb2; clear hb2)
    obtain ⟨W2, hW2, hk2, hb2⟩ := newK w2 tk ta tb (mkS tt) tn
    have HW2 := Lib.hid hW2
    have HQ2 : Hid (QsQ g s st w W2) := ⟨(hb2.block _ (Nat.lt_of_lt_of_le (Array.getElem?_eq_some_iff.1 HQ.out.1).1 HB2.out.size)).trans ((HB2.out.block _ (Array.getElem?_eq_some_iff.1 HQ.out.1).1).trans HQ.out.1), gb_trans HQ.out.2 (gb_below (btr1 HB2.out hb2))⟩
    clear hW2 hk2 hb2
    rw [← HW2.out]
    by_cases hp : pe = 0
    · have e1 : (pe == 0) = true := by simpa using hp
      obtain rfl : 3 = pf := by rw [← HPF.out, if_pos hp]
      have HF3 := Lib.hid (HF.out 3 W2 HQ2.out.1)
      clear hp
      go_wp2_with (go_at_call 14; (with_reducible refine HF3.out.mono ?_); rintro e w3 ⟨rfl, hq3⟩; have HQ3 := Lib.hid (qsq_trans HQ2.out hq3); clear hq3)
      go_end0
      exact ⟨rfl, HQ3.out⟩
    · have e1 : (pe == 0) = false := by simpa using hp
      obtain rfl : pe = pf := by rw [← HPF.out, if_neg hp]
      have HF3 := Lib.hid (HF.out pe W2 HQ2.out.1)
      clear hp
      go_wp2_with (go_at_call 14; (with_reducible refine HF3.out.mono ?_); rintro e w3 ⟨rfl, hq3⟩; have HQ3 := Lib.hid (qsq_trans HQ2.out hq3); clear hq3)
      go_end0
      exact ⟨rfl, HQ3.out⟩
end Go.Proofs.YtpgllcdcpdeicaaGreatDoor.Jv
namespace Go.Proofs.YtpgllcdcpdeicaaGreatDoor.Jv
open Jt
open Go.RowKit Go.ChangeMaps Go.MapKept Go.WideMaps
set_option linter.unusedSimpArgs false
set_option linter.unusedVariables false

abbrev obW (a0 a1 a2 a3 a4 vk : Value) : Obj := .cells #[a0, a1, a2, a3, a4, vk] 31
theorem mkS_bq (t t' : List UInt8) : ((mkS t).toList == (mkS t').toList) = (t == t') := by
  rw [Lib.toList_data, Lib.toList_data, data_mkS, data_mkS]
theorem failQ_at (l : List UInt8) (e : Int) (st : QS) : (failQ l e st).at' = st.at' := by unfold failQ; split <;> rfl
theorem failQ_two (l : List UInt8) (st : QS) : failQ l 3 (failQ l 3 st) = failQ l 3 st := by
  by_cases h : st.bad = 0
  · have : failQ l 3 st = ⟨st.at', 3, endP blkB l st.at'⟩ := by unfold failQ; rw [if_pos h]
    rw [this]; exact failQ_b (by simp)
  · rw [failQ_b h, failQ_b h]
theorem dupQ_at (l : List UInt8) (ks : List (List UInt8)) (st : QS) : (dupQ l ks st).at' = st.at' := by unfold dupQ; split; exact failQ_at _ _ _; rfl
theorem dup_y {l : List UInt8} {ks : List (List UInt8)} {st : QS} {j : Nat} (hj : j < ks.length) (h : pkE l st.at' = 0 ∧ (tokA l st.at').1.k = 7 ∧ (tokA l st.at').1.t = ks[j]) : dupQ l (ks.take (j + 1)) st = failQ l 3 (dupQ l (ks.take j) st) := by
  have h1 : dupQ l (ks.take (j + 1)) st = failQ l 3 st := by
    unfold dupQ
    rw [if_pos ⟨h.1, h.2.1, by rw [List.take_succ_eq_append_getElem hj]; exact List.mem_append.2 (.inr (List.mem_singleton.2 h.2.2))⟩]
  rw [h1]
  unfold dupQ
  split
  · exact (failQ_two l st).symm
  · rfl
theorem dup_n {l : List UInt8} {ks : List (List UInt8)} {st : QS} {j : Nat} (hj : j < ks.length) (h : ¬ (pkE l st.at' = 0 ∧ (tokA l st.at').1.k = 7 ∧ (tokA l st.at').1.t = ks[j])) : dupQ l (ks.take (j + 1)) st = dupQ l (ks.take j) st := by
  have : (pkE l st.at' = 0 ∧ (tokA l st.at').1.k = 7 ∧ (tokA l st.at').1.t ∈ ks.take (j + 1)) ↔ (pkE l st.at' = 0 ∧ (tokA l st.at').1.k = 7 ∧ (tokA l st.at').1.t ∈ ks.take j) := by
    rw [List.take_succ_eq_append_getElem hj, List.mem_append, List.mem_singleton]
    constructor
    · rintro ⟨h1, h2, h3 | h3⟩
      · exact ⟨h1, h2, h3⟩
      · exact absurd ⟨h1, h2, h3⟩ h
    · rintro ⟨h1, h2, h3⟩; exact ⟨h1, h2, .inl h3⟩
  unfold dupQ
  simp only [this]
theorem mustQ_le {l : List UInt8} {k : Nat} {st : QS} (h : st.at' ≤ l.length) : (mustQ l k st).at' ≤ l.length := by
  unfold mustQ isQ
  split
  · rename_i hc
    simp only [if_true]
    have h0 : (tokA l st.at').2 = 0 := by
      have := hc.2.1; unfold pkE er6 at this; split at this <;> omega
    exact (tokA_bd h h0).2
  · simp only [Bool.false_eq_true, if_false]
    rw [failQ_at]; exact h
theorem key_at {w : World} {B : Nat} {vk : Value} {ks : List (List UInt8)} (h : w.ownsRow B 9 1 vk ks.length (kC ks)) : ∃ ao cap, vk = .slice ao ks.length cap ∧ (0 < ks.length → ∃ b, ao = some ⟨b, 0, none⟩ ∧ vk.ownBlock = some b ∧ ∀ j (hj : j < ks.length), w.cell? ⟨b, j, none⟩ = some (.string (mkS ks[j]))) := by
  have h' := h
  rcases h.2 with ⟨rfl, h0⟩ | ⟨g, cap, cur, rfl, _⟩
  · exact ⟨none, 0, by rw [h0], fun hp => by omega⟩
  · refine ⟨_, cap, rfl, fun _ => ⟨g, rfl, rfl, fun j hj => ?_⟩⟩
    rw [h'.cellAt j (by omega)]
    unfold kC
    rw [List.getElem?_map, List.getElem?_eq_getElem hj]; rfl
/-- what lies behind the append of a key, and the store into the value -/
theorem key_ap {g q B g1 c1 : Nat} {a0 a1 a2 a3 a4 vk : Value} {ks : List (List UInt8)} {tt : List UInt8} {n : Nat} {w w3 WB V : World} {o : Obj} (hb : Below w3.heap.size w3 WB) (hV3 : w3.heap[q]? = some (obW a0 a1 a2 a3 a4 vk)) (hR3 : w3.heap[g]? = some o) (hG3 : Grw (fun j => j = g) w w3) (hv : ∀ j, vk.ownBlock = some j → j ≠ g ∧ j ≠ q)
    (hown : V.ownsRow B 9 1 (.slice (some ⟨g1, 0, none⟩) (n + 1) c1) (n + 1) (kC ks ++ [.string (mkS tt)])) (hgrow : WB.grownBy V vk.ownBlock) (hat : vk.ownBlock = some g1 ∨ g1 = WB.heap.size) (hgl : g < w.heap.size) (hql : q < w.heap.size) (hgq : g ≠ q) :
    V.heap[q]? = some (obW a0 a1 a2 a3 a4 vk) ∧ (V.setCell ⟨q, 5, none⟩ (.slice (some ⟨g1, 0, none⟩) (n + 1) c1)).heap[g]? = some o ∧ (V.setCell ⟨q, 5, none⟩ (.slice (some ⟨g1, 0, none⟩) (n + 1) c1)).heap[q]? = some (obW a0 a1 a2 a3 a4 (.slice (some ⟨g1, 0, none⟩) (n + 1) c1)) ∧
      (V.setCell ⟨q, 5, none⟩ (.slice (some ⟨g1, 0, none⟩) (n + 1) c1)).ownsRow B 9 1 (.slice (some ⟨g1, 0, none⟩) (n + 1) c1) (n + 1) (kC (ks ++ [tt])) ∧ (vk.ownBlock = some g1 ∨ w.heap.size ≤ g1) ∧ g1 ≠ g ∧ Grw (fun j => j = g ∨ j = q ∨ vk.ownBlock = some j) w (V.setCell ⟨q, 5, none⟩ (.slice (some ⟨g1, 0, none⟩) (n + 1) c1)) := by
  have hz3 := hG3.size
  have hzb := hb.size
  have h1 : V.heap[q]? = some (obW a0 a1 a2 a3 a4 vk) := (hgrow.block q (by omega) (fun e => (hv q e.symm).2 rfl)).trans ((hb.block q (by omega)).trans hV3)
  have h2 : V.heap[g]? = some o := (hgrow.block g (by omega) (fun e => (hv g e.symm).1 rfl)).trans ((hb.block g (by omega)).trans hR3)
  have hg1g : g1 ≠ g := fun e => by
    subst e
    rcases hat with h | h
    · exact (hv _ h).1 rfl
    · omega
  have hg1q : g1 ≠ q := fun e => by
    subst e
    rcases hat with h | h
    · exact (hv _ h).2 rfl
    · omega
  have hst := gr_one V q 5 (.slice (some ⟨g1, 0, none⟩) (n + 1) c1)
  have hlt := World.ownsRow.lt hown
  refine ⟨h1, (hst.block (by have := (Array.getElem?_eq_some_iff.1 h2).1; exact this) hgq).trans h2, ?_, ?_, ?_, hg1g, ?_⟩
  · have := blk_set h1 5 (.slice (some ⟨g1, 0, none⟩) (n + 1) c1); simpa using this
  · have e : kC (ks ++ [tt]) = kC ks ++ [.string (mkS tt)] := by unfold kC; simp
    rw [e]
    exact row_keep hown hst (fun j e => ⟨(hlt j e).2, by have e : g1 = j := (by injection e); omega⟩)
  · rcases hat with h | h
    · exact .inl h
    · exact .inr (by omega)
  · have hA : Grw (fun j => j = g ∨ j = q ∨ vk.ownBlock = some j) w w3 := hG3.mono (fun k _ h => .inl h)
    have hB : Grw (fun j => j = g ∨ j = q ∨ vk.ownBlock = some j) w3 WB := Grw.of_below hb (fun k h h' => absurd h' (by omega))
    have hC : Grw (fun j => j = g ∨ j = q ∨ vk.ownBlock = some j) WB V := Grw.of_gb hgrow (fun k h => .inr (.inr h))
    exact ((hA.trans hB (fun _ _ h => h)).trans hC (fun _ _ h => h)).trans (hst.mono (fun k _ h => .inr (.inl h))) (fun _ _ h => h)
set_option maxRecDepth 100000 in
set_option maxHeartbeats 2000000 in
theorem key_c (s : ByteArray) (st : QS) (g q B : Nat) (ks : List (List UInt8)) (a0 a1 a2 a3 a4 vk : Value) (w : World) (hR : w.heap[g]? = some (obQ s st)) (hV : w.heap[q]? = some (obW a0 a1 a2 a3 a4 vk)) (hO : w.ownsRow B 9 1 vk ks.length (kC ks))
    (hgq : g ≠ q) (hv : ∀ j, vk.ownBlock = some j → j ≠ g ∧ j ≠ q) (hBl : B ≤ w.heap.size) (hs : s.size ≤ 1000) (ha : st.at' ≤ s.size) (hn : ks.length ≤ 100000) :
    Calls Tryz.prog 42 #[.pointer (some ⟨g, 0, none⟩), .pointer (some ⟨q, 0, none⟩)] w fun e w' => e = .returned (.tuple #[]) ∧ ∃ g1 c1, w'.heap[g]? = some (obQ s (keyQ s.data.toList ks st)) ∧ w'.heap[q]? = some (obW a0 a1 a2 a3 a4 (.slice (some ⟨g1, 0, none⟩) (ks.length + 1) c1)) ∧
      w'.ownsRow B 9 1 (.slice (some ⟨g1, 0, none⟩) (ks.length + 1) c1) (ks.length + 1) (kC (ks ++ [(tokA s.data.toList st.at').1.t])) ∧ (vk.ownBlock = some g1 ∨ w.heap.size ≤ g1) ∧ Grw (fun j => j = g ∨ j = q ∨ vk.ownBlock = some j) w w' := by
  have hsl := Lib.size_eq s
  have HP := peek_c s st g w hR hs ha
  have HF := Lib.hid (fun ks' W (hW : W.heap[g]? = some (obQ s (dupQ s.data.toList ks' st))) => fail_c s (dupQ s.data.toList ks' st) g 3 W hW hs (by rw [dupQ_at]; exact ha))
  have HM7 : Hid (∀ W, W.heap[g]? = some (obQ s (dupQ s.data.toList ks st)) → Calls Tryz.prog 43 #[.pointer (some ⟨g, 0, none⟩), .int .i64 7] W fun e w' => e = .returned (.tuple #[]) ∧ QsQ g s (mustQ s.data.toList 7 (dupQ s.data.toList ks st)) W w') := (fun W hW => must_c s (dupQ s.data.toList ks st) g 7 W hW hs (by rw [dupQ_at]; exact ha))
  have HM5 : Hid (∀ W, W.heap[g]? = some (obQ s (mustQ s.data.toList 7 (dupQ s.data.toList ks st))) → Calls Tryz.prog 43 #[.pointer (some ⟨g, 0, none⟩), .int .i64 5] W fun e w' => e = .returned (.tuple #[]) ∧ QsQ g s (mustQ s.data.toList 5 (mustQ s.data.toList 7 (dupQ s.data.toList ks st))) W w') := (fun W hW => must_c s (mustQ s.data.toList 7 (dupQ s.data.toList ks st)) g 5 W hW hs (by rw [hsl]; exact mustQ_le (by rw [dupQ_at, ← hsl]; exact ha)))
  have HY := Lib.hid (fun j (hj : j < ks.length) => dup_y (l := s.data.toList) (ks := ks) (st := st) hj)
  have HNN := Lib.hid (fun j (hj : j < ks.length) => dup_n (l := s.data.toList) (ks := ks) (st := st) hj)
  unfold keyQ
  unfold ret2 at HP
  obtain ⟨x, hx⟩ : ∃ x, (tokA s.data.toList st.at').1 = x := ⟨_, rfl⟩
  obtain ⟨tk, ta, tb, tt, tn⟩ := x
  rw [hx] at HP HY HNN ⊢
  unfold tkV tokV at HP
  simp only at HP HY HNN ⊢
  generalize pkE s.data.toList st.at' = pe at HP HY HNN ⊢
  obtain ⟨D, hD⟩ : ∃ D : Nat → QS, D = fun j => dupQ s.data.toList (ks.take j) st := ⟨_, rfl⟩
  have hD0 : D 0 = st := by rw [hD]; simp only [List.take_zero]; unfold dupQ; rw [if_neg (fun g => by simpa using g.2.2)]
  have HDn : Hid (∀ j, j = ks.length → D j = dupQ s.data.toList ks st) := fun j hj => by rw [hD, hj]; simp only [List.take_length]
  have HFD : Hid (∀ j W, W.heap[g]? = some (obQ s (D j)) → Calls Tryz.prog 14 #[.pointer (some ⟨g, 0, none⟩), .int .i64 3] W fun r w' => r = .returned (.tuple #[]) ∧ QsQ g s (failQ s.data.toList 3 (D j)) W w') := fun j W hW => by
    rw [hD] at hW ⊢; exact HF.out _ W hW
  have HDY : Hid (∀ j (hj : j < ks.length), pe = 0 ∧ tk = 7 ∧ tt = ks[j] → D (j + 1) = failQ s.data.toList 3 (D j)) := fun j hj h => by rw [hD]; exact HY.out j hj h
  have HDN : Hid (∀ j (hj : j < ks.length), ¬ (pe = 0 ∧ tk = 7 ∧ tt = ks[j]) → D (j + 1) = D j) := fun j hj h => by rw [hD]; exact HNN.out j hj h
  have HPP := Lib.hid HP
  obtain ⟨ao, cap, rfl, hat⟩ := key_at hO
  have HAT := Lib.hid hat
  have HR := Lib.hid hR
  have HV := Lib.hid hV
  have HO := Lib.hid hO
  have hgl : g < w.heap.size := (Array.getElem?_eq_some_iff.1 hR).1
  have hql : q < w.heap.size := (Array.getElem?_eq_some_iff.1 hV).1
  obtain ⟨n, hnn⟩ : ∃ n, n = ks.length := ⟨_, rfl⟩
  have HN : Hid (ks.length = n) := hnn.symm
  rw [← hnn] at HV hn ⊢
  clear HP HF HY HNN hD hx hat hR hV hO hnn
  go_enter Tryz.func42, Tryz.ntmps42
  go_upto_region 1 with (go_at_call 25; (with_reducible refine HPP.out.mono ?_); rintro e w1 ⟨rfl, hb1⟩; have HB1 := Lib.hid hb1; clear hb1)
  obtain ⟨W2, hW2, hk2, hb2⟩ := newK w1 tk ta tb (mkS tt) tn
  have HW2 := Lib.hid hW2
  have HB2 := Lib.hid (btr1 HB1.out hb2)
  have HT2 := Lib.hid hk2
  have hs1 : w.heap.size ≤ w1.heap.size := HB1.out.size
  have hs2 : w1.heap.size < W2.heap.size := (Array.getElem?_eq_some_iff.1 hk2).1
  have HR2 : Hid (W2.heap[g]? = some (obQ s (D 0))) := by rw [hD0]; exact Lib.hid ((HB2.out.block _ hgl).trans HR.out)
  have HV2 := Lib.hid ((HB2.out.block _ hql).trans HV.out)
  clear hW2 hk2 hb2
  rw [← HW2.out]
  have v5 := cell_of_row _ _ 5 _ _ _ HV2.out
  go_wp2
  clear v5
  go_loopw [18] (fun iv wr => ∃ j : Nat, j ≤ n ∧ iv = .int .i64 j ∧ Hid (wr.heap[g]? = some (obQ s (D j))) ∧ Hid (Grw (fun j => j = g) W2 wr)) (fun iv _ => n - (intOf iv).toNat)
  case atStart => exact ⟨0, by omega, rfl, HR2, Lib.hid (Grw.refl _ _)⟩
  case round =>
    obtain ⟨j, hj, rfl, HRr, HG⟩ := hrel
    have HTr := Lib.hid ((HG.out.block hs2 (by omega)).trans HT2.out)
    obtain ⟨t0, t1, t2, t3, t4⟩ := cells5 HTr.out
    by_cases hlt : j < n
    · have HX := Lib.hid (show j < ks.length by rw [HN.out]; exact hlt)
      obtain ⟨b, rfl, hob, hc⟩ := HAT.out (by have := HX.out; omega)
      have hcj := hc j HX.out
      have hbl : b < w.heap.size := World.block_lt_of_cell? w _ hcj
      have hbg := (hv b hob).1
      have hcr : wr.cell? ⟨b, j, none⟩ = some (.string (mkS (ks[j]'HX.out))) := by
        rw [World.cell?_of_block (HG.out.block (k := b) (by have := HB2.out.size; omega) hbg), World.cell?_of_block (HB2.out.block b hbl)]; exact hcj
      have hj0 : (0 : Int) ≤ (j : Int) := by omega
      have hjl : (j : Int) < (n : Int) := by omega
      have HDY2 := Lib.hid (HDY.out j HX.out)
      have HDN2 := Lib.hid (HDN.out j HX.out)
      generalize ks[j]'HX.out = kk at hcr HDY2 HDN2
      have HFJ := Lib.hid (HFD.out j wr HRr.out)
      have hxy := mkS_bq tt kk
      clear hc hcj
      by_cases hp : pe = 0
      · have e1 : (pe == 0) = true := by simpa using hp
        by_cases h7 : tk = 7
        · have e2 : ((tk : Int) == 7) = true := by simpa using (by omega : (tk : Int) = 7)
          by_cases he : tt = kk
          · have e3 : ((mkS tt).toList == (mkS kk).toList) = true := by rw [hxy]; simpa using he
            have HE := Lib.hid (HDY2.out ⟨hp, h7, he⟩)
            clear hp h7 he hxy
            go_wp2_with (go_at_call 14; (with_reducible refine HFJ.out.mono ?_); rintro e w3 ⟨rfl, hq3⟩; have HQ3 := Lib.hid hq3; clear hq3)
            go_roundw
            case rel => exact ⟨j + 1, by omega, by go_num, by rw [HE.out]; exact Lib.hid HQ3.out.1, Lib.hid (HG.out.trans (Grw.of_gb HQ3.out.2 (fun k hk => by injection hk with hk; exact hk.symm)) (fun _ _ h => h))⟩
            case measure => simp [intOf]; omega
          · have e3 : ((mkS tt).toList == (mkS kk).toList) = false := by rw [hxy]; simpa using he
            have HE := Lib.hid (HDN2.out (fun h => he h.2.2))
            clear hp h7 he hxy
            go_wp2
            go_roundw
            case rel => exact ⟨j + 1, by omega, by go_num, by rw [HE.out]; exact HRr, HG⟩
            case measure => simp [intOf]; omega
        · have e2 : ((tk : Int) == 7) = false := by simpa using (by omega : ¬ (tk : Int) = 7)
          have HE := Lib.hid (HDN2.out (fun h => h7 h.2.1))
          clear hp h7 hxy
          go_wp2
          go_roundw
          case rel => exact ⟨j + 1, by omega, by go_num, by rw [HE.out]; exact HRr, HG⟩
          case measure => simp [intOf]; omega
      · have e1 : (pe == 0) = false := by simpa using hp
        have HE := Lib.hid (HDN2.out (fun h => hp h.1))
        clear hp hxy
        go_wp2
        go_roundw
        case rel => exact ⟨j + 1, by omega, by go_num, by rw [HE.out]; exact HRr, HG⟩
        case measure => simp [intOf]; omega
    · have hjl : ¬ (j : Int) < (n : Int) := by omega
      have hRE : wr.heap[g]? = some (obQ s (dupQ s.data.toList ks st)) := by rw [← HDn.out j (by rw [HN.out]; omega)]; exact HRr.out
      have HM := Lib.hid (HM7.out wr hRE)
      clear hRE t0 t1 t2 t3 t4
      go_upto_region 8 with (go_at_call 43; (with_reducible refine HM.out.mono ?_); rintro e w3 ⟨rfl, hq3⟩; have HQ3 := Lib.hid hq3; clear hq3)
      have HG3 : Hid (Grw (fun j => j = g) w w3) := ((Grw.of_below HB2.out (fun k h h' => absurd h' (by omega))).trans HG.out (fun _ _ h => h)).trans (Grw.of_gb HQ3.out.2 (fun k hk => by injection hk with hk; exact hk.symm)) (fun _ _ h => h)
      have HR3 : Hid (w3.heap[g]? = some (obQ s (mustQ s.data.toList 7 (dupQ s.data.toList ks st)))) := HQ3.out.1
      have HV3 := Lib.hid ((HG3.out.block hql (Ne.symm hgq)).trans HV.out)
      have HO3 := Lib.hid (row_keep HO.out HG3.out (fun j e => ⟨(World.ownsRow.lt HO.out j e).2, (hv j e).1⟩))
      have HT3 := Lib.hid ((HQ3.out.2.block w1.heap.size (by have := HG.out.size; omega) (fun e => by injection e with e; omega)).trans HTr.out)
      have hws : wr.heap.size ≤ w3.heap.size := HQ3.out.2.size
      have hwr : W2.heap.size ≤ wr.heap.size := HG.out.size
      rw [HN.out] at HO3
      have hv2 : ∀ j, (Value.slice ao n cap).ownBlock = some j → j ≠ g ∧ j ≠ q := by rw [← HN.out]; exact hv
      obtain ⟨i0, hi, hz0', hz1, hz2⟩ := info_parts infoStr
      have m3 := cell_of_row _ _ 3 _ _ _ HT3.out
      have m5 := cell_of_row _ _ 5 _ _ _ HV3.out
      obtain ⟨WB, hWB⟩ : ∃ WB, WB = ((w3.alloc (.cells #[.string (mkS tt)] 9)).drew) := ⟨_, rfl⟩
      have HBB : Hid (Below w3.heap.size w3 WB) := by rw [hWB]; exact Lib.hid (((Below.refl _ _).alloc (Nat.le_refl _) _).drew)
      have HOB : Hid (WB.ownsRow B 9 1 (.slice ao n cap) n (kC ks)) := by rw [hWB]; exact Lib.hid ((HO3.out.alloc _).drew)
      have HNB : Hid (WB.heap[w3.heap.size]? = some (.cells #[.string (mkS tt)] 9 (0, 0))) := by rw [hWB]; exact Lib.hid (heap_alloc_new w3 (.cells #[.string (mkS tt)] 9))
      have HWB := Lib.hid hWB
      have hlB : B ≤ WB.heap.size := by have := HBB.out.size; omega
      have n5 := World.new_ne w3 _ m5
      have n3 := World.new_ne w3 _ m3
      have l5 : q < w3.heap.size := by omega
      have hn1 : n + 1 ≤ maxLen := by unfold maxLen; omega
      have hn2 : (n + 1) * 16 ≤ 140737488355328 := by omega
      clear hWB
      go_region_law (rw [← HWB.out]; refine step_append_lies _ rfl _ _ 23 rfl B 9 i0 _ 1 16 Tryz.underlying23 hi hz0' hz1 hz2 rfl (by decide) _ _ _ rfl HOB.out ⟨w3.heap.size, 0, none⟩ 1 1 [.string (mkS tt)] rfl rfl (World.news_of_block HNB.out) (by simp [Value.oneCell']) (by decide) hn1 hn2 hlB _ rfl ?_; intro g1 c1 V hown hgrow hat hlt; obtain ⟨hVP, hRV, hQV, hOV, hgg, hgn, hGV⟩ := key_ap (vk := .slice ao n cap) HBB.out HV3.out HR3.out HG3.out hv2 hown hgrow hat hgl hql hgq; have HRV := Lib.hid hRV; have HFIN := Lib.hid (And.intro hQV (And.intro hOV (And.intro hgg (And.intro hgn hGV)))); have d5 := cell_of_row _ _ 5 _ _ _ hVP; have f5 := frz hVP 5; clear hVP hRV hQV hOV hgg hgn hGV hown hgrow hat hlt)
      all_goals
        clear d5 f5 n5 n3 m3 m5
        generalize V.setCell ⟨q, 5, none⟩ (.slice (some ⟨g1, 0, none⟩) (n + 1) c1) = V1 at HRV HFIN ⊢
        have HMM := Lib.hid (HM5.out V1 HRV.out)
        go_wp2_with (go_at_call 43; (with_reducible refine HMM.out.mono ?_); rintro e w5 ⟨rfl, hq5⟩; have HQ5 := Lib.hid hq5; clear hq5)
        go_end0
        obtain ⟨hQV, hOV, hgg, hgn, hGV⟩ := HFIN.out
        have hG5 : Grw (fun j => j = g) V1 w5 := Grw.of_gb HQ5.out.2 (fun k hk => by injection hk with hk; exact hk.symm)
        refine ⟨rfl, g1, c1, HQ5.out.1, (hG5.block (Array.getElem?_eq_some_iff.1 hQV).1 (Ne.symm hgq)).trans hQV, row_keep hOV hG5 (fun j e => ⟨(World.ownsRow.lt hOV j e).2, by have e : g1 = j := (by injection e); omega⟩), hgg, hGV.trans (hG5.mono (fun k _ h => .inl h)) (fun _ _ h => h)⟩
end Go.Proofs.YtpgllcdcpdeicaaGreatDoor.Jv
