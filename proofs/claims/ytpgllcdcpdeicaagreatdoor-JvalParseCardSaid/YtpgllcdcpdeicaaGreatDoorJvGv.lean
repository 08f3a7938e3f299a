/- Contracts and plain mathematics of some packages' functions, laid together; conditions as each one says. -/
import Derived.Test.YtpgllcdcpdeicaaGreatDoorJtAllP
namespace Go.Proofs.YtpgllcdcpdeicaaGreatDoor.Jv
open Jt
set_option linter.unusedSimpArgs false
set_option linter.unusedVariables false

/-- a value: its kind, whether, a number, a text, what it has, its keys -/
inductive JV where
  | mk (k : Int) (is : Bool) (n : Int) (t : List UInt8) (xs : List JV) (ks : List (List UInt8))
def zV : JV := .mk 0 false 0 [] [] []
def JV.xs : JV → List JV | .mk _ _ _ _ xs _ => xs
def JV.ks : JV → List (List UInt8) | .mk _ _ _ _ _ ks => ks
/-- where something goes wrong, and how -/
abbrev Er := Nat × Int
/-- the next token; 6: there is none -/
def nx (l : List UInt8) (a : Nat) : Except Er Tok := if (tokA l a).2 = 0 then .ok (tokA l a).1 else .error (endP blkB l a, (tokA l a).2)
theorem nx_ok {l : List UInt8} {a : Nat} {t : Tok} (ha : a ≤ l.length) (h : nx l a = .ok t) : a < t.b ∧ t.b ≤ l.length := by
  unfold nx at h
  by_cases h0 : (tokA l a).2 = 0
  · rw [if_pos h0] at h; cases h; exact tokA_bd ha h0
  · rw [if_neg h0] at h; cases h
/-- the token behind a key and its colon -/
def keyP (l : List UInt8) (ks : List (List UInt8)) (t : Tok) : Except Er Tok :=
  if t.t ∈ ks ∨ t.k ≠ 7 then .error (t.a, 3)
  else match nx l t.b with
    | .error e => .error e
    | .ok u => if u.k ≠ 5 then .error (u.a, 3) else nx l u.b
theorem keyP_ok {l : List UInt8} {ks : List (List UInt8)} {t u : Tok} (ha : t.b ≤ l.length) (h : keyP l ks t = .ok u) : t.b < u.b ∧ u.b ≤ l.length ∧ t.t ∉ ks ∧ t.k = 7 := by
  unfold keyP at h
  by_cases h1 : t.t ∈ ks ∨ t.k ≠ 7
  · rw [if_pos h1] at h; cases h
  · rw [if_neg h1] at h
    cases hx : nx l t.b with
    | error e => rw [hx] at h; cases h
    | ok v =>
      rw [hx] at h
      dsimp only at h
      have hv := nx_ok ha hx
      by_cases h2 : v.k ≠ 5
      · rw [if_pos h2] at h; cases h
      · rw [if_neg h2] at h
        have hu := nx_ok hv.2 h
        exact ⟨by omega, hu.2, fun g => h1 (.inl g), Classical.byContradiction fun g => h1 (.inr g)⟩
/-- the token that ends an object, a list -/
def lastK (o : Bool) : Nat := if o then 2 else 4
def kndV (o : Bool) : Int := if o then 5 else 4
/-- behind an item: where the whole ends, or the token with which the next one begins -/
def bhP (l : List UInt8) (o : Bool) (b : Nat) : Except Er (Nat ⊕ Tok) :=
  match nx l b with
  | .error e => .error e
  | .ok u => if u.k = lastK o then .ok (.inl u.b) else if u.k ≠ 6 then .error (u.a, 3)
    else match nx l u.b with
      | .error e => .error e
      | .ok t => .ok (.inr t)
theorem bhP_end {l : List UInt8} {o : Bool} {b c : Nat} (hb : b ≤ l.length) (h : bhP l o b = .ok (.inl c)) : b < c ∧ c ≤ l.length := by
  unfold bhP at h
  cases hx : nx l b with
  | error e => rw [hx] at h; cases h
  | ok u =>
    rw [hx] at h; dsimp only at h
    by_cases h1 : u.k = lastK o
    · rw [if_pos h1] at h; cases h; exact nx_ok hb hx
    · rw [if_neg h1] at h
      by_cases h2 : u.k ≠ 6
      · rw [if_pos h2] at h; cases h
      · rw [if_neg h2] at h
        cases hy : nx l u.b with
        | error e => rw [hy] at h; cases h
        | ok t => rw [hy] at h; cases h
theorem bhP_more {l : List UInt8} {o : Bool} {b : Nat} {t : Tok} (hb : b ≤ l.length) (h : bhP l o b = .ok (.inr t)) : b + 1 < t.b ∧ t.b ≤ l.length := by
  unfold bhP at h
  cases hx : nx l b with
  | error e => rw [hx] at h; cases h
  | ok u =>
    rw [hx] at h; dsimp only at h
    by_cases h1 : u.k = lastK o
    · rw [if_pos h1] at h; cases h
    · rw [if_neg h1] at h
      by_cases h2 : u.k ≠ 6
      · rw [if_pos h2] at h; cases h
      · rw [if_neg h2] at h
        cases hy : nx l u.b with
        | error e => rw [hy] at h; cases h
        | ok v =>
          rw [hy] at h; cases h
          have g1 := nx_ok hb hx
          have g2 := nx_ok g1.2 hy
          omega
mutual
/-- the value that begins with a token, and where it ends; f: how many steps at most -/
def pv (l : List UInt8) : Nat → Int → Tok → Except Er (JV × Nat)
  | 0, _, _ => .error (0, 3)
  | f + 1, room, t =>
    if t.k = 11 then .ok (zV, t.b)
    else if t.k = 9 ∨ t.k = 10 then .ok (.mk 1 (t.k == 9) 0 [] [] [], t.b)
    else if t.k = 8 then .ok (.mk 2 false t.n [] [] [], t.b)
    else if t.k = 7 then .ok (.mk 3 false 0 t.t [] [], t.b)
    else if t.k = 1 ∨ t.k = 3 then
      if room < 1 then .error (t.a, 4)
      else match nx l t.b with
        | .error e => .error e
        | .ok u => if u.k = lastK (t.k == 1) then .ok (.mk (kndV (t.k == 1)) false 0 [] [] [], u.b) else pl l f (t.k == 1) (room - 1) [] [] u
    else .error (t.a, 3)
/-- the rest of a list or an object (o) of which so much was read, from the token on with which an item begins -/
def pl (l : List UInt8) : Nat → Bool → Int → List (List UInt8) → List JV → Tok → Except Er (JV × Nat)
  | 0, _, _, _, _, _ => .error (0, 3)
  | f + 1, o, room, ks, xs, t =>
    match (if o then keyP l ks t else .ok t) with
    | .error e => .error e
    | .ok u =>
      match pv l f room u with
      | .error e => .error e
      | .ok r =>
        match bhP l o r.2 with
        | .error e => .error e
        | .ok (.inl b) => .ok (.mk (kndV o) false 0 [] (xs ++ [r.1]) (if o then ks ++ [t.t] else ks), b)
        | .ok (.inr t') => pl l f o room (if o then ks ++ [t.t] else ks) (xs ++ [r.1]) t'
end
/-- the whole text's value; what is amiss in the program's own words (6: tokens are missing) -/
def whole (l : List UInt8) (room : Int) : Except Er JV :=
  match nx l 0 with
  | .error e => .error e
  | .ok t =>
    match pv l (2 * l.length + 1) room t with
    | .error e => .error e
    | .ok r =>
      match nx l r.2 with
      | .error e => if e.2 = 6 then .ok r.1 else .error e
      | .ok u => .error (u.a, 3)
/-- what Parse answers: the value, the place, the error -/
def parseP (l : List UInt8) (depth : Int) : JV × Nat × Int :=
  match whole l (min depth 16) with
  | .error e => (zV, e.1, if e.2 = 6 then 3 else e.2)
  | .ok v => (v, l.length, 0)

mutual
/-- how deep lists and objects stand in one another -/
def dep : JV → Nat
  | .mk k _ _ _ xs _ => if k = 4 ∨ k = 5 then depL xs + 1 else 0
def depL : List JV → Nat
  | [] => 0
  | x :: xs => max (dep x) (depL xs)
end
theorem depL_snoc (xs : List JV) (x : JV) : depL (xs ++ [x]) = max (depL xs) (dep x) := by
  induction xs with
  | nil => simp [depL]
  | cons y ys ih => rw [List.cons_append, depL, ih, depL]; omega
mutual
/-- has no object in a value a key twice, and as many keys as items? -/
def onc : JV → Prop
  | .mk k _ _ _ xs ks => (k = 5 → ks.length = xs.length) ∧ ks.Nodup ∧ oncL xs
def oncL : List JV → Prop
  | [] => True
  | x :: xs => onc x ∧ oncL xs
end
theorem oncL_snoc (xs : List JV) (x : JV) : oncL (xs ++ [x]) ↔ oncL xs ∧ onc x := by
  induction xs with
  | nil => simp [oncL]
  | cons y ys ih => rw [List.cons_append, oncL, ih, oncL, and_assoc]
theorem nodup_snoc {ks : List (List UInt8)} {k : List UInt8} (h : ks.Nodup) (hk : k ∉ ks) : (ks ++ [k]).Nodup := by
  rw [List.nodup_append]
  refine ⟨h, by simp, ?_⟩
  intro a ha b hb e
  rw [List.mem_singleton] at hb
  exact hk (by rw [← hb, ← e]; exact ha)
/-- a value that was read: where it ends, how deep it is, its keys -/
theorem read_ok (l : List UInt8) : ∀ (f : Nat),
    (∀ (room : Int) (t : Tok) (r : JV × Nat), t.b ≤ l.length → pv l f room t = .ok r → t.b ≤ r.2 ∧ r.2 ≤ l.length ∧ (dep r.1 : Int) ≤ max 0 room ∧ onc r.1) ∧
    (∀ (o : Bool) (room : Int) (ks : List (List UInt8)) (xs : List JV) (t : Tok) (r : JV × Nat), t.b ≤ l.length → 0 ≤ room → (depL xs : Int) ≤ room → oncL xs → ks.Nodup → (o = true → ks.length = xs.length) → (o = false → ks = []) →
      pl l f o room ks xs t = .ok r → t.b ≤ r.2 ∧ r.2 ≤ l.length ∧ (dep r.1 : Int) ≤ room + 1 ∧ onc r.1) := by
  intro f
  induction f with
  | zero =>
    refine ⟨?_, ?_⟩
    · intro room t r _ h; rw [pv] at h; cases h
    · intro o room ks xs t r _ _ _ _ _ _ _ h; rw [pl] at h; cases h
  | succ f ih =>
    refine ⟨?_, ?_⟩
    · intro room t r ht h
      rw [pv] at h
      by_cases h1 : t.k = 11
      · rw [if_pos h1] at h; cases h
        exact ⟨Nat.le_refl _, ht, by show ((dep zV : Nat) : Int) ≤ _; simp [zV, dep]; omega, by simp [zV, onc, oncL]⟩
      rw [if_neg h1] at h
      by_cases h2 : t.k = 9 ∨ t.k = 10
      · rw [if_pos h2] at h; cases h
        exact ⟨Nat.le_refl _, ht, by simp [dep]; omega, by simp [onc, oncL]⟩
      rw [if_neg h2] at h
      by_cases h3 : t.k = 8
      · rw [if_pos h3] at h; cases h
        exact ⟨Nat.le_refl _, ht, by simp [dep]; omega, by simp [onc, oncL]⟩
      rw [if_neg h3] at h
      by_cases h4 : t.k = 7
      · rw [if_pos h4] at h; cases h
        exact ⟨Nat.le_refl _, ht, by simp [dep]; omega, by simp [onc, oncL]⟩
      rw [if_neg h4] at h
      by_cases h5 : t.k = 1 ∨ t.k = 3
      · rw [if_pos h5] at h
        by_cases h6 : room < 1
        · rw [if_pos h6] at h; cases h
        rw [if_neg h6] at h
        cases hx : nx l t.b with
        | error e => rw [hx] at h; cases h
        | ok u =>
          rw [hx] at h; dsimp only at h
          have hu := nx_ok ht hx
          by_cases h7 : u.k = lastK (t.k == 1)
          · rw [if_pos h7] at h; cases h
            refine ⟨by show t.b ≤ u.b; omega, hu.2, ?_, by simp [onc, oncL]⟩
            show ((dep (.mk (kndV (t.k == 1)) false 0 [] [] []) : Nat) : Int) ≤ _
            rw [dep, depL]
            split <;> omega
          · rw [if_neg h7] at h
            obtain ⟨a1, a2, a3, a4⟩ := ih.2 (t.k == 1) (room - 1) [] [] u r hu.2 (by omega) (by simp [depL]; omega) (by simp [oncL]) List.nodup_nil (fun _ => rfl) (fun _ => rfl) h
            exact ⟨by omega, a2, by omega, a4⟩
      · rw [if_neg h5] at h; cases h
    · intro o room ks xs t r ht hr hd ho hn hlen hnil h
      rw [pl] at h
      have key : ∃ u : Tok, (if o = true then keyP l ks t else .ok t) = .ok u ∧ t.b ≤ u.b ∧ u.b ≤ l.length ∧ (if o then ks ++ [t.t] else ks).Nodup ∧ (o = true → (if o then ks ++ [t.t] else ks).length = xs.length + 1) ∧ (o = false → (if o then ks ++ [t.t] else ks) = []) := by
        cases o with
        | false => exact ⟨t, rfl, Nat.le_refl _, ht, hn, fun g => (by cases g), hnil⟩
        | true =>
          cases hk : keyP l ks t with
          | error e => rw [if_pos rfl, hk] at h; cases h
          | ok u =>
            have hu := keyP_ok ht hk
            refine ⟨u, by rw [if_pos rfl], by omega, hu.2.1, nodup_snoc hn hu.2.2.1, fun _ => ?_, fun g => (by cases g)⟩
            show (ks ++ [t.t]).length = _
            rw [List.length_append, hlen rfl]; rfl
      obtain ⟨u, hu, hb1, hb2, hn', hl', hnil'⟩ := key
      rw [hu] at h; dsimp only at h
      cases hv : pv l f room u with
      | error e => rw [hv] at h; cases h
      | ok q =>
        rw [hv] at h; dsimp only at h
        obtain ⟨b1, b2, b3, b4⟩ := ih.1 room u q hb2 hv
        cases hc : bhP l o q.2 with
        | error e => rw [hc] at h; cases h
        | ok c =>
          rw [hc] at h
          have hd' : ((depL (xs ++ [q.1]) : Nat) : Int) ≤ room := by rw [depL_snoc]; omega
          have ho' : oncL (xs ++ [q.1]) := (oncL_snoc _ _).2 ⟨ho, b4⟩
          cases c with
          | inl b =>
            dsimp only at h
            cases h
            have hbb := bhP_end b2 hc
            refine ⟨by show t.b ≤ b; omega, hbb.2, ?_, ?_⟩
            · show ((dep (.mk (kndV o) false 0 [] (xs ++ [q.1]) _) : Nat) : Int) ≤ _
              rw [dep]; split <;> omega
            · show onc (.mk (kndV o) false 0 [] (xs ++ [q.1]) _)
              rw [onc]
              refine ⟨fun g => ?_, hn', ho'⟩
              cases o with
              | false => simp [kndV] at g
              | true => rw [hl' rfl, List.length_append]; rfl
          | inr t' =>
            dsimp only at h
            have hbb := bhP_more b2 hc
            obtain ⟨a1, a2, a3, a4⟩ := ih.2 o room _ _ t' r hbb.2 hr hd' ho' hn' (fun g => by rw [hl' g, List.length_append]; rfl) hnil' h
            exact ⟨by omega, a2, a3, a4⟩
end Go.Proofs.YtpgllcdcpdeicaaGreatDoor.Jv
namespace Go.Proofs.YtpgllcdcpdeicaaGreatDoor.Jv
open Jt
set_option linter.unusedSimpArgs false
set_option linter.unusedVariables false

theorem cut_sf (l : List UInt8) (k a b : Nat) : cutL (l.drop k) a b = cutL l (k + a) (k + b) := by unfold cutL; rw [List.drop_drop, show k + b - (k + a) = b - a by omega]
theorem hex_sf (l : List UInt8) (k a : Nat) (hk : k ≤ l.length) : hexA (l.drop k) a = hexA l (k + a) := by
  unfold hexA
  rw [List.length_drop, cut_sf, show k + (a + 4) = k + a + 4 by omega]
  by_cases h : l.length - k < a + 4
  · rw [if_pos h, if_pos (show l.length < k + a + 4 by omega)]
  · rw [if_neg h, if_neg (show ¬ l.length < k + a + 4 by omega)]
theorem back_sf0 (l : List UInt8) (k : Nat) (hk : k ≤ l.length) : backL (l.drop k) 0 = backL l k := by
  unfold backL
  simp only [at0_drop, hex_sf l k _ hk, List.length_drop, Nat.zero_add]
  have e1 : (l.length - k ≤ 1) ↔ (l.length ≤ k + 1) := by omega
  have e2 : (7 < l.length - k) ↔ (k + 7 < l.length) := by omega
  simp only [e1, e2]
theorem unit_sf0 (l : List UInt8) (k : Nat) (hk : k ≤ l.length) : unitL (l.drop k) 0 = unitL l k := by
  unfold unitL
  have hr : runL (l.drop k) 0 = runL l k := by unfold runL; rw [List.drop_zero]
  rw [back_sf0 l k hk, at0_drop, hr, cut_sf, Nat.add_zero, Nat.zero_add]
theorem unit_sf {l : List UInt8} {k j : Nat} (hk : k + j ≤ l.length) : unitL (l.drop k) j = unitL l (k + j) := by
  rw [← unit_sf0 (l.drop k) j (by rw [List.length_drop]; omega), List.drop_drop, unit_sf0 l (k + j) hk]
theorem textF_sf {l : List UInt8} {k : Nat} (hk : k ≤ l.length) : ∀ (f j : Nat), textF (l.drop k) f j = (textF l f (k + j)).map fun r => (r.1, r.2 - k)
  | 0, j => rfl
  | f + 1, j => by
    unfold textF
    rw [List.length_drop, at0_drop]
    by_cases h1 : l.length ≤ k + j
    · rw [if_pos (show l.length - k ≤ j by omega), if_pos h1]; rfl
    · rw [if_neg (show ¬ l.length - k ≤ j by omega), if_neg h1]
      by_cases h2 : at0 l (k + j) = 34
      · rw [if_pos h2, if_pos h2]
        show some _ = some (_, k + j + 1 - k)
        rw [show k + j + 1 - k = j + 1 by omega]
      · rw [if_neg h2, if_neg h2, unit_sf (by omega)]
        by_cases h3 : (unitL l (k + j)).2 = 0
        · rw [if_pos h3, if_pos h3]; rfl
        · rw [if_neg h3, if_neg h3, textF_sf hk f, ← Nat.add_assoc, Option.map_map, Option.map_map]
          rfl
theorem text_sf {l : List UInt8} {k : Nat} (hk : k ≤ l.length) (j : Nat) : textA (l.drop k) j = (textA l (k + j)).map fun r => (r.1, r.2 - k) := by
  unfold textA
  rw [textF_sf hk, List.length_drop, textF_eq l (l.length - k + 1) (l.length + 1) _ (by omega) (by omega)]
theorem endP_sf (p : UInt8 → Bool) (l : List UInt8) (k j : Nat) : k + endP p (l.drop k) j = endP p l (k + j) := by
  unfold endP; rw [List.drop_drop]; omega
/-- a token moved back -/
def mvT (k : Nat) (t : Tok) : Tok := ⟨t.k, t.a - k, t.b - k, t.t, t.n⟩
theorem tokP_sf {l : List UInt8} {k : Nat} (hk : k ≤ l.length) (p : Nat) : tokP (l.drop k) p = (mvT k (tokP l (k + p)).1, (tokP l (k + p)).2) := by
  unfold tokP
  have z : mvT k zT = zT := by unfold mvT zT; simp
  have en : endP numB (l.drop k) p = endP numB l (k + p) - k := by have := endP_sf numB l k p; omega
  have ew : endP wordB (l.drop k) p = endP wordB l (k + p) - k := by have := endP_sf wordB l k p; omega
  have cn : cutL (l.drop k) p (endP numB (l.drop k) p) = cutL l (k + p) (endP numB l (k + p)) := by rw [cut_sf, endP_sf]
  have cw : cutL (l.drop k) p (endP wordB (l.drop k) p) = cutL l (k + p) (endP wordB l (k + p)) := by rw [cut_sf, endP_sf]
  rw [at0_drop, cn, cw, text_sf hk, ← Nat.add_assoc]
  by_cases h1 : sgnI (at0 l (k + p)) ≠ 0
  · rw [if_pos h1, if_pos h1]; unfold mvT; simp; omega
  · rw [if_neg h1, if_neg h1]
    by_cases h2 : at0 l (k + p) = 34
    · rw [if_pos h2, if_pos h2]
      cases textA l (k + p + 1) with
      | none => show (zT, _) = (mvT k zT, _); rw [z]
      | some r => unfold mvT; simp
    · rw [if_neg h2, if_neg h2]
      by_cases h3 : at0 l (k + p) = 45 ∨ Ch.digB (at0 l (k + p)) = true
      · rw [if_pos h3, if_pos h3]
        by_cases h4 : Nu.pE (cutL l (k + p) (endP numB l (k + p))) = 0
        · rw [if_pos h4, if_pos h4, en]; unfold mvT; simp
        · rw [if_neg h4, if_neg h4]; show (zT, _) = (mvT k zT, _); rw [z]
      · rw [if_neg h3, if_neg h3]
        by_cases h4 : wrdK (cutL l (k + p) (endP wordB l (k + p))) = 0
        · rw [if_pos h4, if_pos h4]; show (zT, _) = (mvT k zT, _); rw [z]
        · rw [if_neg h4, if_neg h4, ew]; unfold mvT; simp
theorem tokA_sf {l : List UInt8} {k : Nat} (hk : k ≤ l.length) (j : Nat) : tokA (l.drop k) j = (mvT k (tokA l (k + j)).1, (tokA l (k + j)).2) := by
  unfold tokA
  have e := endP_sf blkB l k j
  rw [List.length_drop]
  by_cases h : l.length ≤ endP blkB l (k + j)
  · rw [if_pos (show l.length - k ≤ endP blkB (l.drop k) j by omega), if_pos h]
    show (zT, _) = (mvT k zT, _)
    unfold mvT zT; simp
  · rw [if_neg (show ¬ l.length - k ≤ endP blkB (l.drop k) j by omega), if_neg h, tokP_sf hk, e]
theorem rdE_e (B M : Int) (l : List UInt8) : Nu.rdE B M l = 0 ∨ Nu.rdE B M l = 3 ∨ Nu.rdE B M l = 5 := by unfold Nu.rdE; (repeat' split) <;> simp
theorem pE_e (l : List UInt8) : Nu.pE l = 0 ∨ Nu.pE l = 3 ∨ Nu.pE l = 5 := by
  unfold Nu.pE
  split
  · simp
  · split
    · exact rdE_e _ _ _
    · exact rdE_e _ _ _
theorem tokP_e (l : List UInt8) (p : Nat) : (tokP l p).2 = 0 ∨ (tokP l p).2 = 3 ∨ (tokP l p).2 = 5 := by
  unfold tokP
  by_cases h1 : sgnI (at0 l p) ≠ 0
  · rw [if_pos h1]; exact .inl rfl
  · rw [if_neg h1]
    by_cases h2 : at0 l p = 34
    · rw [if_pos h2]
      cases textA l (p + 1) with
      | none => exact .inr (.inl rfl)
      | some r => exact .inl rfl
    · rw [if_neg h2]
      by_cases h3 : at0 l p = 45 ∨ Ch.digB (at0 l p) = true
      · rw [if_pos h3]
        by_cases h4 : Nu.pE (cutL l p (endP numB l p)) = 0
        · rw [if_pos h4]; exact .inl rfl
        · rw [if_neg h4]; exact pE_e _
      · rw [if_neg h3]
        by_cases h4 : wrdK (cutL l p (endP wordB l p)) = 0
        · rw [if_pos h4]; exact .inr (.inl rfl)
        · rw [if_neg h4]; exact .inl rfl
theorem tokA_e (l : List UInt8) (k : Nat) : (tokA l k).2 = 0 ∨ (tokA l k).2 = 3 ∨ (tokA l k).2 = 5 ∨ (tokA l k).2 = 6 := by
  unfold tokA
  by_cases h : l.length ≤ endP blkB l k
  · rw [if_pos h]; simp
  · rw [if_neg h]; rcases tokP_e l (endP blkB l k) with x | x | x <;> simp [x]
theorem tokP_a {l : List UInt8} {p : Nat} (h : (tokP l p).2 = 0) : (tokP l p).1.a = p := by
  unfold tokP at h ⊢
  by_cases h1 : sgnI (at0 l p) ≠ 0
  · rw [if_pos h1]
  · rw [if_neg h1] at h ⊢
    by_cases h2 : at0 l p = 34
    · rw [if_pos h2] at h ⊢
      cases hx : textA l (p + 1) with
      | none => rw [hx] at h; cases h
      | some r => rfl
    · rw [if_neg h2] at h ⊢
      by_cases h3 : at0 l p = 45 ∨ Ch.digB (at0 l p) = true
      · rw [if_pos h3] at h ⊢
        by_cases h4 : Nu.pE (cutL l p (endP numB l p)) = 0
        · rw [if_pos h4]
        · rw [if_neg h4] at h; exact absurd h h4
      · rw [if_neg h3] at h ⊢
        by_cases h4 : wrdK (cutL l p (endP wordB l p)) = 0
        · rw [if_pos h4] at h; cases h
        · rw [if_neg h4]
theorem nx_a {l : List UInt8} {a : Nat} {t : Tok} (h : nx l a = .ok t) : t.a = endP blkB l a ∧ t.a < l.length := by
  unfold nx at h
  by_cases h0 : (tokA l a).2 = 0
  · rw [if_pos h0] at h; cases h
    unfold tokA at h0 ⊢
    by_cases h : l.length ≤ endP blkB l a
    · rw [if_pos h] at h0; cases h0
    · rw [if_neg h] at h0 ⊢; rw [tokP_a h0]; omega
  · rw [if_neg h0] at h; cases h
/-- an error that may be: its place, its number -/
def Erk (l : List UInt8) (e : Er) : Prop := e.1 ≤ l.length ∧ (e.2 = 3 ∨ e.2 = 4 ∨ e.2 = 5 ∨ e.2 = 6)
theorem nx_er {l : List UInt8} {a : Nat} {e : Er} (ha : a ≤ l.length) (h : nx l a = .error e) : Erk l e := by
  unfold nx at h
  by_cases h0 : (tokA l a).2 = 0
  · rw [if_pos h0] at h; cases h
  · rw [if_neg h0] at h; cases h
    refine ⟨endP_le ha, ?_⟩
    show (tokA l a).2 = 3 ∨ _ ∨ (tokA l a).2 = 5 ∨ (tokA l a).2 = 6
    rcases tokA_e l a with x | x | x | x
    · exact absurd x h0
    all_goals simp [x]
/-- where All of the rest goes wrong, if the next token does -/
theorem all_place {l : List UInt8} {k : Nat} (hk : k ≤ l.length) (h : (tokA l k).2 ≠ 0) : k + (allA (l.drop k) 0).2.1 = endP blkB l k := by
  have e := tokA_sf hk 0
  rw [Nat.add_zero] at e
  have e2 : (tokA (l.drop k) 0).2 = (tokA l k).2 := by rw [e]
  by_cases h6 : (tokA l k).2 = 6
  · rw [all_none (by rw [e2]; exact h6)]
    show k + (l.drop k).length = _
    rw [List.length_drop]
    have h1 : l.length ≤ endP blkB l k := by
      apply Classical.byContradiction; intro g
      unfold tokA at h6
      rw [if_neg g] at h6
      rcases tokP_e l (endP blkB l k) with x | x | x <;> omega
    have h2 := endP_le (p := blkB) hk
    omega
  · rw [all_err (by rw [e2]; exact h6) (by rw [e2]; exact h)]
    show k + endP blkB (l.drop k) 0 = _
    rw [endP_sf, Nat.add_zero]
theorem keyP_er {l : List UInt8} {ks : List (List UInt8)} {t : Tok} {e : Er} (hb : t.b ≤ l.length) (ha : t.a ≤ l.length) (h : keyP l ks t = .error e) : Erk l e := by
  unfold keyP at h
  by_cases h1 : t.t ∈ ks ∨ t.k ≠ 7
  · rw [if_pos h1] at h; cases h; exact ⟨ha, .inl rfl⟩
  · rw [if_neg h1] at h
    cases hx : nx l t.b with
    | error e' => rw [hx] at h; cases h; exact nx_er hb hx
    | ok v =>
      rw [hx] at h
      dsimp only at h
      by_cases h2 : v.k ≠ 5
      · rw [if_pos h2] at h; cases h; exact ⟨Nat.le_of_lt (nx_a hx).2, .inl rfl⟩
      · rw [if_neg h2] at h; exact nx_er (nx_ok hb hx).2 h
theorem keyP_a {l : List UInt8} {ks : List (List UInt8)} {t u : Tok} (h : keyP l ks t = .ok u) : u.a < l.length := by
  unfold keyP at h
  by_cases h1 : t.t ∈ ks ∨ t.k ≠ 7
  · rw [if_pos h1] at h; cases h
  · rw [if_neg h1] at h
    cases hx : nx l t.b with
    | error e => rw [hx] at h; cases h
    | ok v =>
      rw [hx] at h
      dsimp only at h
      by_cases h2 : v.k ≠ 5
      · rw [if_pos h2] at h; cases h
      · rw [if_neg h2] at h; exact (nx_a h).2
theorem bhP_er {l : List UInt8} {o : Bool} {b : Nat} {e : Er} (hb : b ≤ l.length) (h : bhP l o b = .error e) : Erk l e := by
  unfold bhP at h
  cases hx : nx l b with
  | error e' => rw [hx] at h; cases h; exact nx_er hb hx
  | ok u =>
    rw [hx] at h; dsimp only at h
    by_cases h1 : u.k = lastK o
    · rw [if_pos h1] at h; cases h
    · rw [if_neg h1] at h
      by_cases h2 : u.k ≠ 6
      · rw [if_pos h2] at h; cases h; exact ⟨Nat.le_of_lt (nx_a hx).2, .inl rfl⟩
      · rw [if_neg h2] at h
        cases hy : nx l u.b with
        | error e' => rw [hy] at h; cases h; exact nx_er (nx_ok hb hx).2 hy
        | ok t => rw [hy] at h; cases h
theorem bhP_a {l : List UInt8} {o : Bool} {b : Nat} {t : Tok} (h : bhP l o b = .ok (.inr t)) : t.a < l.length := by
  unfold bhP at h
  cases hx : nx l b with
  | error e => rw [hx] at h; cases h
  | ok u =>
    rw [hx] at h; dsimp only at h
    by_cases h1 : u.k = lastK o
    · rw [if_pos h1] at h; cases h
    · rw [if_neg h1] at h
      by_cases h2 : u.k ≠ 6
      · rw [if_pos h2] at h; cases h
      · rw [if_neg h2] at h
        cases hy : nx l u.b with
        | error e => rw [hy] at h; cases h
        | ok v => rw [hy] at h; cases h; exact (nx_a hy).2
/-- a fault of a value lies in the text -/
theorem read_er (l : List UInt8) : ∀ (f : Nat),
    (∀ (room : Int) (t : Tok) (e : Er), t.b ≤ l.length → t.a ≤ l.length → pv l f room t = .error e → Erk l e) ∧
    (∀ (o : Bool) (room : Int) (ks : List (List UInt8)) (xs : List JV) (t : Tok) (e : Er), t.b ≤ l.length → t.a ≤ l.length → pl l f o room ks xs t = .error e → Erk l e) := by
  intro f
  induction f with
  | zero =>
    refine ⟨?_, ?_⟩
    · intro room t e _ _ h; rw [pv] at h; cases h; exact ⟨Nat.zero_le _, .inl rfl⟩
    · intro o room ks xs t e _ _ h; rw [pl] at h; cases h; exact ⟨Nat.zero_le _, .inl rfl⟩
  | succ f ih =>
    refine ⟨?_, ?_⟩
    · intro room t e hb ha h
      rw [pv] at h
      by_cases h1 : t.k = 11
      · rw [if_pos h1] at h; cases h
      rw [if_neg h1] at h
      by_cases h2 : t.k = 9 ∨ t.k = 10
      · rw [if_pos h2] at h; cases h
      rw [if_neg h2] at h
      by_cases h3 : t.k = 8
      · rw [if_pos h3] at h; cases h
      rw [if_neg h3] at h
      by_cases h4 : t.k = 7
      · rw [if_pos h4] at h; cases h
      rw [if_neg h4] at h
      by_cases h5 : t.k = 1 ∨ t.k = 3
      · rw [if_pos h5] at h
        by_cases h6 : room < 1
        · rw [if_pos h6] at h; cases h; exact ⟨ha, .inr (.inl rfl)⟩
        rw [if_neg h6] at h
        cases hx : nx l t.b with
        | error e' => rw [hx] at h; cases h; exact nx_er hb hx
        | ok u =>
          rw [hx] at h; dsimp only at h
          by_cases h7 : u.k = lastK (t.k == 1)
          · rw [if_pos h7] at h; cases h
          · rw [if_neg h7] at h
            exact ih.2 _ _ _ _ u e (nx_ok hb hx).2 (Nat.le_of_lt (nx_a hx).2) h
      · rw [if_neg h5] at h; cases h; exact ⟨ha, .inl rfl⟩
    · intro o room ks xs t e hb ha h
      rw [pl] at h
      cases hk : (if o = true then keyP l ks t else .ok t) with
      | error e' =>
        rw [hk] at h; cases h
        cases o with
        | false => cases hk
        | true => exact keyP_er hb ha hk
      | ok u =>
        rw [hk] at h; dsimp only at h
        have hu : u.b ≤ l.length ∧ u.a ≤ l.length := by
          cases o with
          | false => cases hk; exact ⟨hb, ha⟩
          | true => exact ⟨(keyP_ok hb hk).2.1, Nat.le_of_lt (keyP_a hk)⟩
        cases hv : pv l f room u with
        | error e' => rw [hv] at h; cases h; exact ih.1 room u e hu.1 hu.2 hv
        | ok q =>
          rw [hv] at h; dsimp only at h
          have hq := (read_ok l f).1 room u q hu.1 hv
          cases hc : bhP l o q.2 with
          | error e' => rw [hc] at h; cases h; exact bhP_er hq.2.1 hc
          | ok c =>
            rw [hc] at h
            cases c with
            | inl b => dsimp only at h; cases h
            | inr t' =>
              dsimp only at h
              exact ih.2 _ _ _ _ t' e (bhP_more hq.2.1 hc).2 (Nat.le_of_lt (bhP_a hc)) h
theorem whole_er (l : List UInt8) (d : Int) : ∀ e, whole l (min d 16) = .error e → Erk l e := by
  intro e h
  unfold whole at h
  cases hx : nx l 0 with
  | error e' => rw [hx] at h; cases h; exact nx_er (Nat.zero_le _) hx
  | ok t =>
    rw [hx] at h; dsimp only at h
    have ht := nx_ok (Nat.zero_le _) hx
    cases hv : pv l (2 * l.length + 1) (min d 16) t with
    | error e' => rw [hv] at h; cases h; exact (read_er l _).1 _ t e ht.2 (Nat.le_of_lt (nx_a hx).2) hv
    | ok r =>
      rw [hv] at h; dsimp only at h
      have hr := (read_ok l _).1 _ t r ht.2 hv
      cases hy : nx l r.2 with
      | error e' =>
        rw [hy] at h; dsimp only at h
        by_cases h6 : e'.2 = 6
        · rw [if_pos h6] at h; cases h
        · rw [if_neg h6] at h; cases h; exact nx_er hr.2.1 hy
      | ok u => rw [hy] at h; cases h; exact ⟨Nat.le_of_lt (nx_a hy).2, .inl rfl⟩
/-- what Parse answers, in short -/
theorem parse_shape (l : List UInt8) (d : Int) :
    ((parseP l d).2.2 ≠ 0 → (parseP l d).1 = zV ∧ (parseP l d).2.1 ≤ l.length) ∧
    ((parseP l d).2.2 = 0 → (parseP l d).2.1 = l.length ∧ ((dep (parseP l d).1 : Nat) : Int) ≤ max 0 (min d 16) ∧ onc (parseP l d).1) ∧
    ((parseP l d).2.2 = 0 ∨ (parseP l d).2.2 = 3 ∨ (parseP l d).2.2 = 4 ∨ (parseP l d).2.2 = 5) := by
  have key := whole_er l d
  have key2 : ∀ v, whole l (min d 16) = .ok v → ((dep v : Nat) : Int) ≤ max 0 (min d 16) ∧ onc v := by
    intro v h
    unfold whole at h
    cases hx : nx l 0 with
    | error e' => rw [hx] at h; cases h
    | ok t =>
      rw [hx] at h; dsimp only at h
      have ht := nx_ok (Nat.zero_le _) hx
      cases hv : pv l (2 * l.length + 1) (min d 16) t with
      | error e' => rw [hv] at h; cases h
      | ok r =>
        rw [hv] at h; dsimp only at h
        have hr := (read_ok l _).1 _ t r ht.2 hv
        cases hy : nx l r.2 with
        | error e' =>
          rw [hy] at h; dsimp only at h
          by_cases h6 : e'.2 = 6
          · rw [if_pos h6] at h; cases h; exact hr.2.2
          · rw [if_neg h6] at h; cases h
        | ok u => rw [hy] at h; cases h
  unfold parseP
  cases h : whole l (min d 16) with
  | error e =>
    have he := key e h
    dsimp only
    refine ⟨fun _ => ⟨rfl, he.1⟩, fun g => ?_, ?_⟩
    · exfalso
      rcases he.2 with x | x | x | x <;> rw [x] at g <;> simp at g
    · rcases he.2 with x | x | x | x <;> rw [x] <;> simp
  | ok v => exact ⟨fun g => absurd rfl g, fun _ => ⟨rfl, key2 v h⟩, .inl rfl⟩
end Go.Proofs.YtpgllcdcpdeicaaGreatDoor.Jv
