/- Contracts and plain mathematics of some packages' functions, laid together; conditions as each one says. -/
import Derived.Test.YtpgllcdcpdeicaaGreatDoorJvGc
import Derived.Test.YtpgllcdcpdeicaaGreatDoorJvItA
import Derived.Test.YtpgllcdcpdeicaaGreatDoorJvItP
namespace Go.Proofs.YtpgllcdcpdeicaaGreatDoor.Jv
open Jt
open Go.RowKit Go.ChangeMaps Go.MapKept Go.WideMaps
set_option linter.unusedSimpArgs false
set_option linter.unusedVariables false

/-- the blocks that item may write -/
abbrev XI (g pb mb B : Nat) (j : Nat) : Prop := j = g ∨ j = pb ∨ j = mb ∨ B ≤ j
/-- what item answers -/
def ItQ (o : Bool) (g pb mb B : Nat) (s : ByteArray) (room : Int) (ks : List (List UInt8)) (xs : List JV) (x : Except Er (List (List UInt8) × JV × Nat)) (w : World) (e : Ending) (w' : World) : Prop :=
  Grw (XI g pb mb B) w w' ∧ match x with
  | .ok r => e = .returned .nilIface ∧ PS o pb mb B room r.1 (xs ++ [r.2.1]) w' ∧ Rd g s r.2.2 w'
  | .error r => e = .returned (fauV r) ∧ ∃ a, a ≤ s.size ∧ Rd g s a w'
/-- an item, in the plain mathematics -/
def itP (l : List UInt8) (f : Nat) (o : Bool) (room : Int) (ks : List (List UInt8)) (t : Tok) : Except Er (List (List UInt8) × JV × Nat) :=
  match (if o then keyP l ks t else .ok t) with
  | .error e => .error e
  | .ok u => match pv l f room u with
    | .error e => .error e
    | .ok r => .ok (if o then ks ++ [t.t] else ks, r.1, r.2)
theorem row_sl {B : Nat} {e : TypeId} {sz n : Nat} {v : Value} {xs : List Value} {w : World} (h : w.ownsRow B e sz v n xs) : ∃ vo vc, v = .slice vo n vc := by
  rcases h.2 with ⟨rfl, rfl⟩ | ⟨g, cap, cur, rfl, _⟩
  · exact ⟨_, _, rfl⟩
  · exact ⟨_, _, rfl⟩
theorem item_l (g pb mb B f : Nat) (s : ByteArray) (room : Int) (xs : List JV) (t : Tok) (w : World) (hR : Rd g s t.b w) (hE : Env w) (hgB : g < B) (hpB : pb < B) (hmB : mb < B) (hBl : B ≤ w.heap.size) (hpg : pb ≠ g) (hmp : mb ≠ pb) (hn : xs.length < 10000)
    (hPS : PS false pb mb B room [] xs w)
    (hV : ∀ V, Rd g s t.b V → Env V → Calls Tryz.prog 17 #[.pointer (some ⟨g, 0, none⟩), tkA t, .int .i64 room] V (ValQ g s (pv s.data.toList f room t) V)) :
    Calls Tryz.prog 50 #[.pointer (some ⟨g, 0, none⟩), .pointer (some ⟨pb, 0, none⟩), tkA t] w (ItQ false g pb mb B s room [] xs (itP s.data.toList f false room [] t) w) := by
  have hgl := hR.lt
  obtain ⟨vi, vk, css, h1, h2, h3, h4, h5, h6, h7⟩ := hPS
  obtain ⟨rfl, -⟩ := h7 rfl
  obtain ⟨vo, vc, rfl⟩ := row_sl h2
  have hVV : ∀ V, Grw (fun j => w.heap.size ≤ j) w V → Calls Tryz.prog 17 #[.pointer (some ⟨g, 0, none⟩), tkA t, .int .i64 room] V (ValQ g s (pv s.data.toList f room t) V) := fun V hG => by
    have hb : Below w.heap.size w V := ⟨hG.1, hG.2.1, hG.2.2.1, hG.2.2.2.1, fun k hk => hG.block hk (by omega)⟩
    exact hV V (hR.go hb) (hE.go hb)
  cases hx : pv s.data.toList f room t with
  | error r =>
    have hi : itP s.data.toList f false room [] t = .error r := by unfold itP; rw [if_neg (by simp)]; dsimp only; rw [hx]
    rw [hi]
    refine (item_1 g pb room (t.k : Int) (t.a : Int) (t.b : Int) t.n (mkS t.t) (.slice vo xs.length vc) (r.1 : Int) r.2 w hgl hpg h1 (fun V w' _ => ∃ c, c ≤ s.size ∧ Rd g s c w') (Lib.hid fun V hG hsz _ => (hVV V hG).mono fun e w' hh => ?_)).mono ?_
    · rw [hx] at hh
      exact ⟨0, false, 0, ⟨#[]⟩, none, 0, 0, none, 0, 0, hh.2.1, hh.1, hh.2.2⟩
    · rintro e w' ⟨he, V, w2, l, k1, k2, ⟨c, hc, k3⟩, k4⟩
      refine ⟨?_, he, c, hc, (k4.block k3.lt (by omega)).trans k3⟩
      have x1 : Grw (XI g pb mb B) w V := k1.mono fun j hj e => by omega
      have x2 := x1.trans (Grw.of_gb (X := fun j => j = g) k2 (fun j e => by injection e with e; exact e.symm)) (fun j _ e => .inl e)
      exact x2.trans k4 (fun j hj e => by omega)
  | ok r =>
    have hi : itP s.data.toList f false room [] t = .ok ([], r.1, r.2) := by unfold itP; rw [if_neg (by simp)]; dsimp only; rw [hx]; rfl
    rw [hi]
    refine (item_2 g pb room (t.k : Int) (t.a : Int) (t.b : Int) t.n (mkS t.t) B xs.length vc vo (List.flatten css) w hgl hpg h1 hn hBl h2 (fun j e => ⟨(h4 j e).2.1, by have := (h4 j e).1; omega, by have := (h4 j e).1; omega⟩) (fun V w' l => Rep (fun k => V.heap.size ≤ k) w' r.1 l ∧ Rd g s r.2 w' ∧ V.heap.size = w.heap.size + 2) (Lib.hid fun V hG hsz _ => (hVV V hG).mono fun e w' hh => ?_)).mono ?_
    · rw [hx] at hh
      obtain ⟨i1, xk, xb, xn, xt, xo, xl, xq, yo, yl, yq, i2, i3, i4⟩ := hh
      exact ⟨xk, xb, xn, xt, xo, xl, xq, yo, yl, yq, i2, i1, i3, i4, hsz⟩
    · rintro e w' ⟨he, V, k1, w2, k2, l, ⟨k3, k5, hVs⟩, k4⟩
      have x1 : Grw (XI g pb mb B) w V := k1.mono fun j hj e => by omega
      have x2 := x1.trans (Grw.of_gb (X := fun j => j = g) k2 (fun j e => by injection e with e; exact e.symm)) (fun j _ e => .inl e)
      have y2 := (k1.mono (Y := fun j => j = g ∨ w.heap.size ≤ j) fun j _ e => .inr e).trans (Grw.of_gb (X := fun j => j = g) k2 (fun j e => by injection e with e; exact e.symm)) (fun j _ e => .inl e)
      have hs2 := y2.size
      obtain ⟨g1, c1, m1, m2, m3, m4, m5⟩ := id k4
      refine ⟨x2.trans m5 (fun j hj e => ?_), he, ?_, ?_⟩
      · rcases e with e | e | e
        · omega
        · exact .inr (.inl e)
        · exact .inr (.inr (.inr (h4 _ e).1))
      · exact PS.snoc (o := false) k4 rfl (RepA.mono (fun k hk _ => ⟨hk.1, by have := hk.2; omega⟩) (RepA.keep (P := fun k => PP B (.slice vo xs.length vc) (.slice none 0 0) k ∧ k < w.heap.size) ⟨hs2, fun k hk hl => y2.block hl (by rintro (e | e); have := hk.1.1; omega; omega)⟩ (h3.mono fun k hk hl => ⟨hk, hl⟩)))
          (k3.mono fun k hk _ => ⟨⟨by have := k1.size; omega, fun e => by have := (h4 _ e).2.1; have := k1.size; omega, fun e => by cases e⟩, by omega⟩) (fun j e => ⟨(h4 j e).1, Nat.lt_of_lt_of_le (h4 j e).2.1 hs2, (h4 j e).2.2⟩) (fun j e => by cases e) (fun e => by cases e) (fun _ => ⟨rfl, rfl⟩)
          (fun e => by cases e) hpB (by omega) hmp hmB (by omega)
      · exact (m5.block k5.lt (by rintro (e | e | e); omega; exact hpg e.symm; have := (h4 _ e).1; omega)).trans k5
end Go.Proofs.YtpgllcdcpdeicaaGreatDoor.Jv
namespace Go.Proofs.YtpgllcdcpdeicaaGreatDoor.Jv
open Jt
set_option linter.unusedSimpArgs false
set_option linter.unusedVariables false

theorem pl_step (l : List UInt8) (f : Nat) (o : Bool) (room : Int) (ks : List (List UInt8)) (xs : List JV) (t : Tok) : pl l (f + 1) o room ks xs t =
    match itP l f o room ks t with
    | .error e => .error e
    | .ok r => match bhP l o r.2.2 with
      | .error e => .error e
      | .ok (.inl b) => .ok (.mk (kndV o) false 0 [] (xs ++ [r.2.1]) r.1, b)
      | .ok (.inr t') => pl l f o room r.1 (xs ++ [r.2.1]) t' := by
  rw [pl]
  unfold itP
  cases hk : (if o then keyP l ks t else .ok t) with
  | error e => rfl
  | ok u =>
    dsimp only
    cases hv : pv l f room u with
    | error e => rfl
    | ok r => rfl
theorem unit_len (l : List UInt8) (k : Nat) : (unitL l k).1.length ≤ 4 := by
  unfold unitL
  by_cases h1 : at0 l k < 32 ∨ at0 l k = 34
  · rw [if_pos h1]; simp
  rw [if_neg h1]
  by_cases h2 : at0 l k ≠ 92
  · rw [if_pos h2]
    by_cases h3 : runL l k = 0
    · rw [if_pos h3]; simp
    · rw [if_neg h3]
      have h4 : runL l k ≤ 4 := by
        unfold runL
        have := (Ut.nextW_k (nl (l.drop k))).2.1
        omega
      show (cutL l k (k + runL l k)).length ≤ 4
      unfold cutL
      rw [List.length_take]
      omega
  · rw [if_neg h2]
    unfold backL
    by_cases g1 : l.length ≤ k + 1
    · rw [if_pos g1]; simp
    rw [if_neg g1]
    by_cases g2 : 0 ≤ escI (at0 l (k + 1))
    · rw [if_pos g2]; simp
    rw [if_neg g2]
    split
    · simp
    · split
      · exact putI_len4 _
      · split
        · exact putI_len4 _
        · simp
theorem textF_len (l : List UInt8) : ∀ (f k : Nat) (r : List UInt8 × Nat), textF l f k = some r → r.1.length ≤ 4 * f
  | 0, k, r, h => by unfold textF at h; cases h
  | f + 1, k, r, h => by
    unfold textF at h
    by_cases h1 : l.length ≤ k
    · rw [if_pos h1] at h; cases h
    rw [if_neg h1] at h
    by_cases h2 : at0 l k = 34
    · rw [if_pos h2] at h; cases h; simp
    rw [if_neg h2] at h
    by_cases h3 : (unitL l k).2 = 0
    · rw [if_pos h3] at h; cases h
    rw [if_neg h3] at h
    cases hx : textF l f (k + (unitL l k).2) with
    | none => rw [hx] at h; cases h
    | some q =>
      rw [hx] at h
      cases h
      have := textF_len l f _ q hx
      have := unit_len l k
      show ((unitL l k).1 ++ q.1).length ≤ _
      rw [List.length_append]
      omega
theorem nx_tt {l : List UInt8} {a : Nat} {t : Tok} (h : nx l a = .ok t) : t.t.length ≤ 4 * (l.length + 1) := by
  unfold nx at h
  by_cases h0 : (tokA l a).2 = 0
  · rw [if_pos h0] at h
    cases h
    unfold tokA at h0 ⊢
    split at h0
    · cases h0
    · rename_i hn
      rw [if_neg hn]
      unfold tokP at h0 ⊢
      split
      · simp
      · rename_i g1
        rw [if_neg g1] at h0
        split
        · rename_i g2
          rw [if_pos g2] at h0
          cases hx : textA l (endP blkB l a + 1) with
          | none => rw [hx] at h0; cases h0
          | some r => exact textF_len l _ _ r hx
        · rename_i g2
          rw [if_neg g2] at h0
          split
          · rename_i g3
            split
            · simp
            · rename_i g4
              rw [if_pos g3, if_neg g4] at h0
              exact absurd h0 g4
          · split
            · simp [zT]
            · simp
  · rw [if_neg h0] at h; cases h
theorem tt_max {l : List UInt8} {t : Tok} (hl : l.length ≤ 1000) (h : t.t.length ≤ 4 * (l.length + 1)) : (mkS t.t).size ≤ maxLen := by
  rw [size_mkS]
  have : (5000 : Nat) ≤ maxLen := by decide
  omega
end Go.Proofs.YtpgllcdcpdeicaaGreatDoor.Jv
namespace Go.Proofs.YtpgllcdcpdeicaaGreatDoor.Jv
open Jt
open Go.RowKit Go.ChangeMaps Go.MapKept Go.WideMaps
set_option linter.unusedSimpArgs false
set_option linter.unusedVariables false

/-- what lies when a key was taken, its row named -/
def KV (g pb mb B : Nat) (room : Int) (vi vk : Value) (ks : List (List UInt8)) (t : List UInt8) (w V : World) (v2 : Value) : Prop :=
  V.heap[pb]? = some (obP 5 vi v2 2 (.map (some mb)) room) ∧ SetM mb (ks ++ [t]) V ∧ V.ownsRow B 9 1 v2 (ks.length + 1) (kC (ks ++ [t])) ∧
    (∃ g1, v2.ownBlock = some g1 ∧ g1 < V.heap.size ∧ (vk.ownBlock = some g1 ∨ w.heap.size + 2 ≤ g1)) ∧ Grw (XO g pb mb vk) w V
theorem item_o (g pb mb B f : Nat) (s : ByteArray) (room : Int) (ks : List (List UInt8)) (xs : List JV) (t : Tok) (w : World) (hR : Rd g s t.b w) (hE : Env w) (hgN : 4 ≤ g) (hpN : 4 ≤ pb) (hmN : 4 ≤ mb) (hgB : g < B) (hpB : pb < B) (hmB : mb < B) (hBl : B ≤ w.heap.size) (hpg : pb ≠ g) (hmp : mb ≠ pb) (hmg : mb ≠ g)
    (hs : s.size ≤ 1000) (hb : t.b ≤ s.size) (ha : t.a ≤ s.size) (ht : (mkS t.t).size ≤ maxLen) (hn : xs.length < 9999) (hkx : ks.length = xs.length)
    (hPS : PS true pb mb B room ks xs w)
    (hV : ∀ u V, keyP s.data.toList ks t = .ok u → Rd g s u.b V → Env V → Calls Tryz.prog 17 #[.pointer (some ⟨g, 0, none⟩), tkA u, .int .i64 room] V (ValQ g s (pv s.data.toList f room u) V)) :
    Calls Tryz.prog 50 #[.pointer (some ⟨g, 0, none⟩), .pointer (some ⟨pb, 0, none⟩), tkA t] w (ItQ true g pb mb B s room ks xs (itP s.data.toList f true room ks t) w) := by
  have hgl := hR.lt
  obtain ⟨vi, vk, css, h1, h2, h3, h4, h5, h6, h7⟩ := hPS
  obtain ⟨hM, hO⟩ := h6 rfl
  obtain ⟨vo, vc, rfl⟩ := row_sl h2
  have hX0 : ∀ q, w.heap.size ≤ q → ¬ XO g pb mb vk q := fun q hq e => by
    rcases e with e | e | e | e
    · omega
    · omega
    · omega
    · have := (h5 _ e).2; omega
  have hKQ : ∀ V, Grw (fun j => w.heap.size ≤ j) w V → V.heap.size = w.heap.size + 2 → Calls Tryz.prog 64 #[.pointer (some ⟨g, 0, none⟩), .pointer (some ⟨pb, 0, none⟩), tkA t] V (KyQ g pb mb B s 5 2 room (.slice vo xs.length vc) vk ks t (keyP s.data.toList ks t) V) := fun V hG hz => by
    have hbb : Below w.heap.size w V := ⟨hG.1, hG.2.1, hG.2.2.1, hG.2.2.2.1, fun k hk => hG.block hk (by omega)⟩
    refine key_q g pb mb B s 5 2 room (.slice vo xs.length vc) vk ks t V (hR.go hbb) (hE.go hbb) hgN hs hb ha ht (by omega) ((hbb.block _ (by omega)).trans h1) (hM.keep (hbb.block _ (by omega))) (row_keep hO hG fun j e => ⟨(h5 j e).2, by have := (h5 j e).2; omega⟩) (by omega)
      (fun j e => ⟨by have := (h5 j e).2; omega, by have := (h5 j e).1; omega, by have := (h5 j e).1; omega, by have := (h5 j e).1; omega⟩) hpg hmg (Ne.symm hmp) (fun j e => ?_)
    rcases e with e | e | e | e
    · omega
    · omega
    · omega
    · have := (h5 _ e).1; omega
  have hXI : ∀ j, j < w.heap.size → XO g pb mb vk j → XI g pb mb B j := fun j _ e => by
    rcases e with e | e | e | e
    · exact .inl e
    · exact .inr (.inl e)
    · exact .inr (.inr (.inl e))
    · exact .inr (.inr (.inr (h5 _ e).1))
  have x1 : ∀ {V}, Grw (fun j => w.heap.size ≤ j) w V → Grw (XI g pb mb B) w V := fun h => h.mono fun j hj e => by omega
  cases hk : keyP s.data.toList ks t with
  | error r =>
    have hi : itP s.data.toList f true room ks t = .error r := by unfold itP; rw [if_pos rfl, hk]
    rw [hi]
    refine (item_3 g pb mb room (t.k : Int) (t.a : Int) (t.b : Int) t.n (mkS t.t) (.slice vo xs.length vc) vk (r.1 : Int) r.2 w hgl hpg h1 (XO g pb mb vk) (hX0 _ (Nat.le_refl _)) (hX0 _ (by omega)) (fun _ w' _ => ∃ c, c ≤ s.size ∧ Rd g s c w') (Lib.hid fun V hG hz => (hKQ V hG hz).mono fun e w' hh => ?_)).mono ?_
    · rw [hk] at hh
      obtain ⟨i1, i2, i3⟩ := hh
      exact ⟨.nilIface, i1, i3, i2⟩
    · rintro e w' ⟨he, V, w1, vk2, k1, k2, ⟨c, hc, k3⟩, k4⟩
      refine ⟨?_, he, c, hc, (k4.block k3.lt (by omega)).trans k3⟩
      exact ((x1 k1).trans k2 hXI).trans k4 (fun j hj e => by omega)
  | ok u =>
    have hKO : ∀ V, Grw (fun j => w.heap.size ≤ j) w V → V.heap.size = w.heap.size + 2 → Calls Tryz.prog 64 #[.pointer (some ⟨g, 0, none⟩), .pointer (some ⟨pb, 0, none⟩), tkA t] V fun e w' => ∃ vk2, e = .returned (.tuple #[tkA u, .nilIface]) ∧ Grw (XO g pb mb vk) V w' ∧ (Rd g s u.b w' ∧ KV g pb mb B room (.slice vo xs.length vc) vk ks t.t V w' vk2) := fun V hG hz => by
      refine (hKQ V hG hz).mono fun e w' hh => ?_
      rw [hk] at hh
      obtain ⟨i1, i2, g1, c1, m1, m2, m3, m4, m5, m6⟩ := hh
      exact ⟨_, i1, m6, i2, m1, m2, m3, ⟨g1, rfl, m4, m5⟩, m6⟩
    have hVV : ∀ (V0 w1 V : World) (vk2 : Value), Grw (fun j => w.heap.size ≤ j) w V0 → Grw (XO g pb mb vk) V0 w1 → Rd g s u.b w1 → Grw (fun j => j = w.heap.size) w1 V → Calls Tryz.prog 17 #[.pointer (some ⟨g, 0, none⟩), tkA u, .int .i64 room] V (ValQ g s (pv s.data.toList f room u) V) := fun V0 w1 V vk2 a1 a2 a3 a4 => by
      refine hV u V hk ((a4.block a3.lt (by omega)).trans a3) ?_
      have y := ((x1 a1).trans a2 hXI).trans a4 (fun j hj e => by omega)
      exact env_grw hE y (fun j _ e => by rcases e with e | e | e | e <;> omega) (by omega)
    have hPK : ∀ V u' v2, (Rd g s u.b u' ∧ KV g pb mb B room (.slice vo xs.length vc) vk ks t.t V u' v2) → u'.heap[pb]? = some (obP 5 (.slice vo xs.length vc) v2 2 (.map (some mb)) room) := fun V u' v2 h => h.2.1
    cases hx : pv s.data.toList f room u with
    | error r =>
      have hi : itP s.data.toList f true room ks t = .error r := by unfold itP; rw [if_pos rfl, hk]; dsimp only; rw [hx]
      rw [hi]
      refine (item_4 g pb mb room (t.k : Int) (t.a : Int) (t.b : Int) t.n (mkS t.t) (.slice vo xs.length vc) vk (r.1 : Int) r.2 (u.k : Int) (u.a : Int) (u.b : Int) u.n (mkS u.t) w hgl hpg h1 (XO g pb mb vk) (hX0 _ (Nat.le_refl _)) (hX0 _ (by omega)) (fun V w' v2 => Rd g s u.b w' ∧ KV g pb mb B room (.slice vo xs.length vc) vk ks t.t V w' v2) (Lib.hid hKO) hPK (fun _ _ _ w' _ _ => ∃ c, c ≤ s.size ∧ Rd g s c w')
        (Lib.hid fun V0 w1 V vk2 a1 _ a2 a3 a4 => (hVV V0 w1 V vk2 a1 a2 a3.1 a4).mono fun e w' hh => ?_)).mono ?_
      · rw [hx] at hh
        exact ⟨0, false, 0, ⟨#[]⟩, none, 0, 0, none, 0, 0, hh.2.1, hh.1, hh.2.2⟩
      · rintro e w' ⟨he, V0, k1, w1, k2, V, k3, w2, k4, vk2, l, ⟨c, hc, k5⟩, k6⟩
        refine ⟨?_, he, c, hc, (k6.block k5.lt (by omega)).trans k5⟩
        have y := ((x1 k1).trans k2 hXI).trans k3 (fun j hj e => by omega)
        exact (y.trans (Grw.of_gb (X := fun j => j = g) k4 (fun j e => by injection e with e; exact e.symm)) (fun j _ e => .inl e)).trans k6 (fun j hj e => by omega)
    | ok r =>
      have hi : itP s.data.toList f true room ks t = .ok (ks ++ [t.t], r.1, r.2) := by unfold itP; rw [if_pos rfl, hk]; dsimp only; rw [hx]; rfl
      rw [hi]
      refine (item_5 g pb mb room (t.k : Int) (t.a : Int) (t.b : Int) t.n (mkS t.t) vk (u.k : Int) (u.a : Int) (u.b : Int) u.n (mkS u.t) B xs.length vc vo (List.flatten css) w hgl hpg h1 (XO g pb mb vk) (hX0 _ (Nat.le_refl _)) (hX0 _ (by omega)) (fun V w' v2 => Rd g s u.b w' ∧ KV g pb mb B room (.slice vo xs.length vc) vk ks t.t V w' v2) (Lib.hid hKO) hPK (by omega) hBl h2
        (fun j e => ⟨(h4 j e).2.1, by have := (h4 j e).1; omega, by have := (h4 j e).1; omega, fun x => by rcases x with x | x | x | x; (have := (h4 j e).1; omega); (have := (h4 j e).1; omega); (have := (h4 j e).1; omega); exact (h4 j e).2.2 x⟩)
        (fun V0 w1 V w' v2 l => Rep (fun k => V.heap.size ≤ k) w' r.1 l ∧ Rd g s r.2 w' ∧ V0.heap.size = w.heap.size + 2 ∧ KV g pb mb B room (.slice vo xs.length vc) vk ks t.t V0 w1 v2)
        (Lib.hid fun V0 w1 V vk2 a1 a0 a2 a3 a4 => (hVV V0 w1 V vk2 a1 a2 a3.1 a4).mono fun e w' hh => ?_)).mono ?_
      · rw [hx] at hh
        obtain ⟨i1, xk, xb, xn, xt, xo, xl, xq, yo, yl, yq, i2, i3, i4⟩ := hh
        exact ⟨xk, xb, xn, xt, xo, xl, xq, yo, yl, yq, i2, i1, i3, i4, a0, a3.2⟩
      · rintro e w' ⟨he, V0, k1, w1, k2, V, k3, w2, k4, vk2, l, ⟨k5, k6, k7, n1, n2, n3, ⟨gk, n4, n5, n6⟩, n7⟩, k8⟩
        have y := ((x1 k1).trans k2 hXI).trans k3 (fun j hj e => by omega)
        have y2 := y.trans (Grw.of_gb (X := fun j => j = g) k4 (fun j e => by injection e with e; exact e.symm)) (fun j _ e => .inl e)
        have z : Grw (fun j => XO g pb mb vk j ∨ w.heap.size ≤ j) w w2 := (((k1.mono (Y := fun j => XO g pb mb vk j ∨ w.heap.size ≤ j) fun j _ e => .inr e).trans k2 (fun j _ e => .inl e)).trans k3 (fun j hj e => by omega)).trans (Grw.of_gb (X := fun j => j = g) k4 (fun j e => by injection e with e; exact e.symm)) (fun j _ e => .inl (.inl e))
        have q1 : Grw (fun j => j = g ∨ j = w.heap.size) w1 w2 := (k3.mono (Y := fun j => j = g ∨ j = w.heap.size) fun j _ e => .inr e).trans (Grw.of_gb (X := fun j => j = g) k4 (fun j e => by injection e with e; exact e.symm)) (fun j _ e => .inl e)
        have hsz := z.size
        have hs1 := k2.size
        have hs2 := q1.size
        have hs3 := k3.size
        have hgk : B ≤ gk ∧ gk ≠ w.heap.size ∧ gk ≠ w.heap.size + 1 := by
          rcases n6 with h | h
          · have := h5 _ h; omega
          · omega
        obtain ⟨g1, c1, m1, m2, m3, m4, m5⟩ := id k8
        refine ⟨y2.trans m5 (fun j hj e => ?_), he, ?_, ?_⟩
        · rcases e with e | e | e
          · omega
          · exact .inr (.inl e)
          · exact .inr (.inr (.inr (h4 _ e).1))
        · refine PS.snoc (o := true) k8 rfl (RepA.mono (P := fun k => PP B (.slice vo xs.length vc) vk k ∧ k < w.heap.size) (fun k hk _ => ⟨⟨hk.1.1, hk.1.2.1, fun e => ?ga⟩, by have := hk.2; omega⟩) (RepA.keep (P := fun k => PP B (.slice vo xs.length vc) vk k ∧ k < w.heap.size) ⟨hsz, fun k hk hl => z.block hl ?gb⟩ (h3.mono fun k hk hl => ⟨hk, hl⟩)))
            (k5.mono fun k hk _ => ⟨⟨by omega, fun e => by have := (h4 _ e).2.1; omega, fun e => by rw [n4] at e; injection e with e; omega⟩, by omega⟩) (fun j e => ⟨(h4 j e).1, by have := (h4 j e).2.1; omega, fun e2 => ?gc⟩) (fun j e => by rw [n4] at e; injection e with e; subst e; exact ⟨hgk.1, by omega⟩)
            (fun _ => ⟨n2.keep (q1.block n2.lt (by omega)), ?gd⟩) (fun e => by cases e) (fun e => by rw [n4] at e; injection e with e; omega) hpB (by omega) hmp hmB (by omega)
          case ga =>
            rw [n4] at e
            injection e with e
            rcases n6 with h | h
            · exact hk.1.2.2 (by rw [← e]; exact h)
            · have := hk.2; omega
          case gb =>
            rintro ((e | e | e | e) | e)
            · have := hk.1.1; omega
            · have := hk.1.1; omega
            · have := hk.1.1; omega
            · exact hk.1.2.2 e
            · have := hk.2; omega
          case gc =>
            rw [n4] at e2
            injection e2 with e2
            rcases n6 with h | h
            · exact (h4 j e).2.2 (by rw [← e2]; exact h)
            · have := (h4 j e).2.1; omega
          case gd =>
            have := row_keep n3 q1 (fun j e => by rw [n4] at e; injection e with e; subst e; exact ⟨n5, by omega⟩)
            rw [List.length_append]
            exact this
        · exact (m5.block k6.lt (by rintro (e | e | e); omega; exact hpg e.symm; have := (h4 _ e).1; omega)).trans k6
end Go.Proofs.YtpgllcdcpdeicaaGreatDoor.Jv
namespace Go.Proofs.YtpgllcdcpdeicaaGreatDoor.Jv
open Jt
open Go.RowKit Go.ChangeMaps Go.MapKept Go.WideMaps
set_option linter.unusedSimpArgs false
set_option linter.unusedVariables false

set_option maxRecDepth 100000 in
set_option maxHeartbeats 2000000 in
theorem parts_1 (g : Nat) (room k ta tb tn : Int) (tx : ByteArray) (w : World) (hr : room < 1) :
    Calls Tryz.prog 38 #[.pointer (some ⟨g, 0, none⟩), .agg #[.int .i64 k, .int .i64 ta, .int .i64 tb, .string tx, .int .i64 tn], .int .i64 room] w fun e w' => e = .returned (.tuple #[.agg #[.int .i64 0, .bool false, .int .i64 0, .string ⟨#[]⟩, .slice none 0 0, .slice none 0 0], .iface 45 (.agg #[.int .i64 ta, .int .i64 4])]) ∧ Below w.heap.size w w' := by
  obtain ⟨W0, hW0, hk0, hr0, hb0, hz0⟩ := two_it w k ta tb tx tn
  have HW0 := Lib.hid hW0
  have HK0 := Lib.hid hk0
  have HR0 := Lib.hid hr0
  have HB0 := Lib.hid hb0
  clear hW0 hk0 hr0 hb0
  go_enter Tryz.func38, Tryz.ntmps38
  go_upto_region 2 with (fail)
  rw [← HW0.out]
  obtain ⟨a0, a1, a2, a3, a4⟩ := cells5 HK0.out
  obtain ⟨u0, u1, u2, u3, u4, u5⟩ := cells6 HR0.out
  have r0 := frz HR0.out 0
  have r1 := frz HR0.out 1
  have r2 := frz HR0.out 2
  have r3 := frz HR0.out 3
  have r4 := frz HR0.out 4
  have r5 := frz HR0.out 5
  have HH := Lib.hid (set6 HR0.out (.int .i64 0) (.bool false) (.int .i64 0) (.string ⟨#[]⟩) (.slice none 0 0) (.slice none 0 0))
  have HZ := Lib.hid (gr_set6 W0 (w.heap.size + 1) (.int .i64 0) (.bool false) (.int .i64 0) (.string ⟨#[]⟩) (.slice none 0 0) (.slice none 0 0))
  go_region
  all_goals
    go_wp2_with fail
    obtain ⟨d0, d1, d2, d3, d4, d5⟩ := cells6 HH.out
    clear u0 u1 u2 u3 u4 u5 r0 r1 r2 r3 r4 r5 a0 a1 a2 a3 a4
    (with_reducible refine bodyPost_ret (v := .tuple #[.agg #[.int .i64 0, .bool false, .int .i64 0, .string ⟨#[]⟩, .slice none 0 0, .slice none 0 0], .iface 45 (.agg #[.int .i64 ta, .int .i64 4])]) (by simp [results, Tryz.results38, go_sem, d0, d1, d2, d3, d4, d5]) rfl ⟨rfl, ?_⟩)
    have hZ := HZ.out
    exact Below.drew (HB0.out.trans ⟨hZ.1, hZ.2.1, hZ.2.2.1, hZ.2.2.2.1, fun j hj => hZ.block (by omega) (by omega)⟩)
end Go.Proofs.YtpgllcdcpdeicaaGreatDoor.Jv
namespace Go.Proofs.YtpgllcdcpdeicaaGreatDoor.Jv
open Jt
open Go.RowKit Go.ChangeMaps Go.MapKept Go.WideMaps
set_option linter.unusedSimpArgs false
set_option linter.unusedVariables false

set_option maxRecDepth 100000 in
set_option maxHeartbeats 4000000 in
theorem parts_2 (g : Nat) (room k ta tb tn : Int) (tx : ByteArray) (p x : Int) (hk1 : k ≠ 1) (w : World) (hgl : g < w.heap.size) (hr : 1 ≤ room) (hr2 : room ≤ 1000) (P2 : World → Prop) (HN : Hid (∀ V, Grw (fun j => w.heap.size ≤ j) w V → Calls Tryz.prog 16 #[.pointer (some ⟨g, 0, none⟩)] V fun e w' => e = .returned (.tuple #[.agg #[.int .i64 0, .int .i64 0, .int .i64 0, .string ⟨#[]⟩, .int .i64 0], .iface 45 (.agg #[.int .i64 p, .int .i64 x])]) ∧ V.grownBy w' (some g) ∧ P2 w')) :
    Calls Tryz.prog 38 #[.pointer (some ⟨g, 0, none⟩), .agg #[.int .i64 k, .int .i64 ta, .int .i64 tb, .string tx, .int .i64 tn], .int .i64 room] w fun e w' => e = .returned (.tuple #[.agg #[.int .i64 0, .bool false, .int .i64 0, .string ⟨#[]⟩, .slice none 0 0, .slice none 0 0], .iface 45 (.agg #[.int .i64 p, .int .i64 x])]) ∧ ∃ V, Grw (fun j => w.heap.size ≤ j) w V ∧ ∃ w2, V.grownBy w2 (some g) ∧ P2 w2 ∧ ∃ w3, Grw (fun j => j = w.heap.size) w2 w3 ∧ Grw (fun j => j = w.heap.size + 1) w3 w' := by
  have HGL : Hid (g < w.heap.size) := hgl
  clear hgl
  obtain ⟨W0, hW0, hk0, hr0, hb0, hz0⟩ := two_it w k ta tb tx tn
  have HW0 := Lib.hid hW0
  have HK0 := Lib.hid hk0
  have HR0 := Lib.hid hr0
  have HB0 := Lib.hid hb0
  clear hW0 hk0 hr0 hb0
  go_enter Tryz.func38, Tryz.ntmps38
  go_upto_region 3 with (fail)
  rw [← HW0.out]
  have hq : IntKind.i64.wrap (room - 1) = room - 1 := by rw [IntKind.wrap_i64]; omega
  obtain ⟨a0, a1, a2, a3, a4⟩ := cells5 HK0.out
  go_upto_region 6 with (fail)
  obtain ⟨WP, hWP⟩ : ∃ WP, WP = W0.alloc (obP 4 (.slice none 0 0) (.slice none 0 0) 4 (.map none) (room - 1)) := ⟨_, rfl⟩
  have hbP : Below W0.heap.size W0 WP := by rw [hWP]; exact (Below.refl _ _).alloc (Nat.le_refl _) _
  have HPP : Hid (WP.heap[w.heap.size + 2]? = some (obP 4 (.slice none 0 0) (.slice none 0 0) 4 (.map none) (room - 1))) := by rw [hWP, ← hz0]; exact Lib.hid (heap_alloc_new W0 _)
  rw [← hWP]
  clear hWP
  have HKP : Hid (WP.heap[w.heap.size]? = some (obT k ta tb tx tn)) := (hbP.block _ (by omega)).trans HK0.out
  have HRP : Hid (WP.heap[w.heap.size + 1]? = some (obV 0 false 0 ⟨#[]⟩ none 0 0 none 0 0)) := (hbP.block _ (by omega)).trans HR0.out
  have HGP : Hid (Grw (fun j => w.heap.size ≤ j) w WP) := Grw.of_below (HB0.out.trans (hbP.mono (by omega))) (fun k h1 h2 => h1)
  clear hbP a0 a1 a2 a3 a4
  go_wp2_with fail
  (with_reducible refine (HN.out WP HGP.out).mono ?_)
  rintro e w2 ⟨rfl, hg2, hp2⟩
  have HP2 := Lib.hid hp2
  have HG2 : Hid (WP.grownBy w2 (some g)) := hg2
  have HK2 : Hid (w2.heap[w.heap.size]? = some (obT k ta tb tx tn)) := (hg2.block _ (Array.getElem?_eq_some_iff.1 HKP.out).1 (fun e => by injection e with e; have := HGL.out; omega)).trans HKP.out
  have HR2 : Hid (w2.heap[w.heap.size + 1]? = some (obV 0 false 0 ⟨#[]⟩ none 0 0 none 0 0)) := (hg2.block _ (Array.getElem?_eq_some_iff.1 HRP.out).1 (fun e => by injection e with e; have := HGL.out; omega)).trans HRP.out
  have HP3 : Hid (w2.heap[w.heap.size + 2]? = some (obP 4 (.slice none 0 0) (.slice none 0 0) 4 (.map none) (room - 1))) := (hg2.block _ (Array.getElem?_eq_some_iff.1 HPP.out).1 (fun e => by injection e with e; have := HGL.out; omega)).trans HPP.out
  clear hg2 hp2
  obtain ⟨a0, a1, a2, a3, a4⟩ := cells5 HK2.out
  have f0 := frz HK2.out 0
  have f1 := frz HK2.out 1
  have f2 := frz HK2.out 2
  have f3 := frz HK2.out 3
  have f4 := frz HK2.out 4
  go_upto_region 7 with (fail)
  obtain ⟨w3, hw3⟩ : ∃ w3, w3 = (((((w2.setCell ⟨w.heap.size, 0, none⟩ (.int .i64 0)).setCell ⟨w.heap.size, 1, none⟩ (.int .i64 0)).setCell ⟨w.heap.size, 2, none⟩ (.int .i64 0)).setCell ⟨w.heap.size, 3, none⟩ (.string ⟨#[]⟩)).setCell ⟨w.heap.size, 4, none⟩ (.int .i64 0)) := ⟨_, rfl⟩
  have HK3 : Hid (w3.heap[w.heap.size]? = some (.cells #[.int .i64 0, .int .i64 0, .int .i64 0, .string ⟨#[]⟩, .int .i64 0] 60 (0, 0))) := by rw [hw3]; exact Lib.hid (set5 HK2.out _ _ _ _ _)
  have HZ3 : Hid (Grw (fun j => j = w.heap.size) w2 w3) := by rw [hw3]; exact Lib.hid (gr_set5 w2 w.heap.size _ _ _ _ _)
  have HR3 : Hid (w3.heap[w.heap.size + 1]? = some (obV 0 false 0 ⟨#[]⟩ none 0 0 none 0 0)) := (HZ3.out.block (Array.getElem?_eq_some_iff.1 HR2.out).1 (by omega)).trans HR2.out
  have HP4 : Hid (w3.heap[w.heap.size + 2]? = some (obP 4 (.slice none 0 0) (.slice none 0 0) 4 (.map none) (room - 1))) := (HZ3.out.block (Array.getElem?_eq_some_iff.1 HP3.out).1 (by omega)).trans HP3.out
  rw [← hw3]
  clear hw3 a0 a1 a2 a3 a4 f0 f1 f2 f3 f4
  obtain ⟨a0, a1, a2, a3, a4⟩ := cells5 HK3.out
  obtain ⟨u0, u1, u2, u3, u4, u5⟩ := cells6 HR3.out
  have r0 := frz HR3.out 0
  have r1 := frz HR3.out 1
  have r2 := frz HR3.out 2
  have r3 := frz HR3.out 3
  have r4 := frz HR3.out 4
  have r5 := frz HR3.out 5
  have nF := neF p x
  have HH := Lib.hid (set6 HR3.out (.int .i64 0) (.bool false) (.int .i64 0) (.string ⟨#[]⟩) (.slice none 0 0) (.slice none 0 0))
  have HZ := Lib.hid (gr_set6 w3 (w.heap.size + 1) (.int .i64 0) (.bool false) (.int .i64 0) (.string ⟨#[]⟩) (.slice none 0 0) (.slice none 0 0))
  go_wp2_with fail
  obtain ⟨d0, d1, d2, d3, d4, d5⟩ := cells6 HH.out
  clear u0 u1 u2 u3 u4 u5 r0 r1 r2 r3 r4 r5 a0 a1 a2 a3 a4
  (with_reducible refine bodyPost_ret (v := .tuple #[.agg #[.int .i64 0, .bool false, .int .i64 0, .string ⟨#[]⟩, .slice none 0 0, .slice none 0 0], .iface 45 (.agg #[.int .i64 p, .int .i64 x])]) (by simp [results, Tryz.results38, go_sem, d0, d1, d2, d3, d4, d5]) rfl ⟨rfl, ?_⟩)
  (with_reducible exact ⟨WP, HGP.out, w2, HG2.out, HP2.out, w3, HZ3.out, HZ.out⟩)
set_option maxRecDepth 100000 in
set_option maxHeartbeats 4000000 in
theorem parts_3 (g : Nat) (room k ta tb tn : Int) (tx : ByteArray) (ta2 tb2 tn2 : Int) (tx2 : ByteArray) (hk1 : k ≠ 1) (w : World) (hgl : g < w.heap.size) (hr : 1 ≤ room) (hr2 : room ≤ 1000) (P2 : World → Prop) (HN : Hid (∀ V, Grw (fun j => w.heap.size ≤ j) w V → Calls Tryz.prog 16 #[.pointer (some ⟨g, 0, none⟩)] V fun e w' => e = .returned (.tuple #[.agg #[.int .i64 4, .int .i64 ta2, .int .i64 tb2, .string tx2, .int .i64 tn2], .nilIface]) ∧ V.grownBy w' (some g) ∧ P2 w')) :
    Calls Tryz.prog 38 #[.pointer (some ⟨g, 0, none⟩), .agg #[.int .i64 k, .int .i64 ta, .int .i64 tb, .string tx, .int .i64 tn], .int .i64 room] w fun e w' => e = .returned (.tuple #[.agg #[.int .i64 4, .bool false, .int .i64 0, .string ⟨#[]⟩, .slice none 0 0, .slice none 0 0], .nilIface]) ∧ ∃ V, Grw (fun j => w.heap.size ≤ j) w V ∧ ∃ w2, V.grownBy w2 (some g) ∧ P2 w2 ∧ ∃ w3, Grw (fun j => j = w.heap.size) w2 w3 ∧ Grw (fun j => j = w.heap.size + 1) w3 w' := by
  have HGL : Hid (g < w.heap.size) := hgl
  clear hgl
  obtain ⟨W0, hW0, hk0, hr0, hb0, hz0⟩ := two_it w k ta tb tx tn
  have HW0 := Lib.hid hW0
  have HK0 := Lib.hid hk0
  have HR0 := Lib.hid hr0
  have HB0 := Lib.hid hb0
  clear hW0 hk0 hr0 hb0
  go_enter Tryz.func38, Tryz.ntmps38
  go_upto_region 3 with (fail)
  rw [← HW0.out]
  have hq : IntKind.i64.wrap (room - 1) = room - 1 := by rw [IntKind.wrap_i64]; omega
  obtain ⟨a0, a1, a2, a3, a4⟩ := cells5 HK0.out
  go_upto_region 6 with (fail)
  obtain ⟨WP, hWP⟩ : ∃ WP, WP = W0.alloc (obP 4 (.slice none 0 0) (.slice none 0 0) 4 (.map none) (room - 1)) := ⟨_, rfl⟩
  have hbP : Below W0.heap.size W0 WP := by rw [hWP]; exact (Below.refl _ _).alloc (Nat.le_refl _) _
  have HPP : Hid (WP.heap[w.heap.size + 2]? = some (obP 4 (.slice none 0 0) (.slice none 0 0) 4 (.map none) (room - 1))) := by rw [hWP, ← hz0]; exact Lib.hid (heap_alloc_new W0 _)
  rw [← hWP]
  clear hWP
  have HKP : Hid (WP.heap[w.heap.size]? = some (obT k ta tb tx tn)) := (hbP.block _ (by omega)).trans HK0.out
  have HRP : Hid (WP.heap[w.heap.size + 1]? = some (obV 0 false 0 ⟨#[]⟩ none 0 0 none 0 0)) := (hbP.block _ (by omega)).trans HR0.out
  have HGP : Hid (Grw (fun j => w.heap.size ≤ j) w WP) := Grw.of_below (HB0.out.trans (hbP.mono (by omega))) (fun k h1 h2 => h1)
  clear hbP a0 a1 a2 a3 a4
  go_wp2_with fail
  (with_reducible refine (HN.out WP HGP.out).mono ?_)
  rintro e w2 ⟨rfl, hg2, hp2⟩
  have HP2 := Lib.hid hp2
  have HG2 : Hid (WP.grownBy w2 (some g)) := hg2
  have HK2 : Hid (w2.heap[w.heap.size]? = some (obT k ta tb tx tn)) := (hg2.block _ (Array.getElem?_eq_some_iff.1 HKP.out).1 (fun e => by injection e with e; have := HGL.out; omega)).trans HKP.out
  have HR2 : Hid (w2.heap[w.heap.size + 1]? = some (obV 0 false 0 ⟨#[]⟩ none 0 0 none 0 0)) := (hg2.block _ (Array.getElem?_eq_some_iff.1 HRP.out).1 (fun e => by injection e with e; have := HGL.out; omega)).trans HRP.out
  have HP3 : Hid (w2.heap[w.heap.size + 2]? = some (obP 4 (.slice none 0 0) (.slice none 0 0) 4 (.map none) (room - 1))) := (hg2.block _ (Array.getElem?_eq_some_iff.1 HPP.out).1 (fun e => by injection e with e; have := HGL.out; omega)).trans HPP.out
  clear hg2 hp2
  obtain ⟨a0, a1, a2, a3, a4⟩ := cells5 HK2.out
  have f0 := frz HK2.out 0
  have f1 := frz HK2.out 1
  have f2 := frz HK2.out 2
  have f3 := frz HK2.out 3
  have f4 := frz HK2.out 4
  go_upto_region 7 with (fail)
  obtain ⟨w3, hw3⟩ : ∃ w3, w3 = (((((w2.setCell ⟨w.heap.size, 0, none⟩ (.int .i64 4)).setCell ⟨w.heap.size, 1, none⟩ (.int .i64 ta2)).setCell ⟨w.heap.size, 2, none⟩ (.int .i64 tb2)).setCell ⟨w.heap.size, 3, none⟩ (.string tx2)).setCell ⟨w.heap.size, 4, none⟩ (.int .i64 tn2)) := ⟨_, rfl⟩
  have HK3 : Hid (w3.heap[w.heap.size]? = some (.cells #[.int .i64 4, .int .i64 ta2, .int .i64 tb2, .string tx2, .int .i64 tn2] 60 (0, 0))) := by rw [hw3]; exact Lib.hid (set5 HK2.out _ _ _ _ _)
  have HZ3 : Hid (Grw (fun j => j = w.heap.size) w2 w3) := by rw [hw3]; exact Lib.hid (gr_set5 w2 w.heap.size _ _ _ _ _)
  have HR3 : Hid (w3.heap[w.heap.size + 1]? = some (obV 0 false 0 ⟨#[]⟩ none 0 0 none 0 0)) := (HZ3.out.block (Array.getElem?_eq_some_iff.1 HR2.out).1 (by omega)).trans HR2.out
  have HP4 : Hid (w3.heap[w.heap.size + 2]? = some (obP 4 (.slice none 0 0) (.slice none 0 0) 4 (.map none) (room - 1))) := (HZ3.out.block (Array.getElem?_eq_some_iff.1 HP3.out).1 (by omega)).trans HP3.out
  rw [← hw3]
  clear hw3 a0 a1 a2 a3 a4 f0 f1 f2 f3 f4
  obtain ⟨a0, a1, a2, a3, a4⟩ := cells5 HK3.out
  obtain ⟨u0, u1, u2, u3, u4, u5⟩ := cells6 HR3.out
  have r0 := frz HR3.out 0
  have r1 := frz HR3.out 1
  have r2 := frz HR3.out 2
  have r3 := frz HR3.out 3
  have r4 := frz HR3.out 4
  have r5 := frz HR3.out 5
  have nN := neN
  have p0 := cell_of_row _ _ 0 _ _ _ HP4.out
  have p1 := cell_of_row _ _ 1 _ _ _ HP4.out
  have p2 := cell_of_row _ _ 2 _ _ _ HP4.out
  have p3 := cell_of_row _ _ 3 _ _ _ HP4.out
  have p4 := cell_of_row _ _ 4 _ _ _ HP4.out
  have p5 := cell_of_row _ _ 5 _ _ _ HP4.out
  have p6 := cell_of_row _ _ 6 _ _ _ HP4.out
  have p7 := cell_of_row _ _ 7 _ _ _ HP4.out
  have p8 := cell_of_row _ _ 8 _ _ _ HP4.out
  have HH := Lib.hid (set6 HR3.out (.int .i64 4) (.bool false) (.int .i64 0) (.string ⟨#[]⟩) (.slice none 0 0) (.slice none 0 0))
  have HZ := Lib.hid (gr_set6 w3 (w.heap.size + 1) (.int .i64 4) (.bool false) (.int .i64 0) (.string ⟨#[]⟩) (.slice none 0 0) (.slice none 0 0))
  go_wp2_with fail
  obtain ⟨d0, d1, d2, d3, d4, d5⟩ := cells6 HH.out
  clear u0 u1 u2 u3 u4 u5 r0 r1 r2 r3 r4 r5 a0 a1 a2 a3 a4
  (with_reducible refine bodyPost_ret (v := .tuple #[.agg #[.int .i64 4, .bool false, .int .i64 0, .string ⟨#[]⟩, .slice none 0 0, .slice none 0 0], .nilIface]) (by simp [results, Tryz.results38, go_sem, d0, d1, d2, d3, d4, d5]) rfl ⟨rfl, ?_⟩)
  (with_reducible exact ⟨WP, HGP.out, w2, HG2.out, HP2.out, w3, HZ3.out, HZ.out⟩)
end Go.Proofs.YtpgllcdcpdeicaaGreatDoor.Jv
namespace Go.Proofs.YtpgllcdcpdeicaaGreatDoor.Jv
open Jt
open Go.RowKit Go.ChangeMaps Go.MapKept Go.WideMaps
set_option linter.unusedSimpArgs false
set_option linter.unusedVariables false

set_option maxRecDepth 100000 in
set_option maxHeartbeats 4000000 in
theorem parts_4 (g : Nat) (room ta tb tn : Int) (tx : ByteArray) (p x : Int) (w : World) (hgl : g < w.heap.size) (hr : 1 ≤ room) (hr2 : room ≤ 1000) (P2 : World → Prop) (HN : Hid (∀ V, Grw (fun j => w.heap.size ≤ j) w V → Calls Tryz.prog 16 #[.pointer (some ⟨g, 0, none⟩)] V fun e w' => e = .returned (.tuple #[.agg #[.int .i64 0, .int .i64 0, .int .i64 0, .string ⟨#[]⟩, .int .i64 0], .iface 45 (.agg #[.int .i64 p, .int .i64 x])]) ∧ V.grownBy w' (some g) ∧ P2 w')) :
    Calls Tryz.prog 38 #[.pointer (some ⟨g, 0, none⟩), .agg #[.int .i64 1, .int .i64 ta, .int .i64 tb, .string tx, .int .i64 tn], .int .i64 room] w fun e w' => e = .returned (.tuple #[.agg #[.int .i64 0, .bool false, .int .i64 0, .string ⟨#[]⟩, .slice none 0 0, .slice none 0 0], .iface 45 (.agg #[.int .i64 p, .int .i64 x])]) ∧ ∃ V, Grw (fun j => w.heap.size ≤ j) w V ∧ ∃ w2, V.grownBy w2 (some g) ∧ P2 w2 ∧ ∃ w3, Grw (fun j => j = w.heap.size) w2 w3 ∧ Grw (fun j => j = w.heap.size + 1) w3 w' := by
  have HGL : Hid (g < w.heap.size) := hgl
  clear hgl
  obtain ⟨W0, hW0, hk0, hr0, hb0, hz0⟩ := two_it w 1 ta tb tx tn
  have HW0 := Lib.hid hW0
  have HK0 := Lib.hid hk0
  have HR0 := Lib.hid hr0
  have HB0 := Lib.hid hb0
  clear hW0 hk0 hr0 hb0
  go_enter Tryz.func38, Tryz.ntmps38
  go_upto_region 3 with (fail)
  rw [← HW0.out]
  have hq : IntKind.i64.wrap (room - 1) = room - 1 := by rw [IntKind.wrap_i64]; omega
  obtain ⟨a0, a1, a2, a3, a4⟩ := cells5 HK0.out
  have hmm := @run_makeMap Tryz.prog
  go_upto_region 6 with (fail)
  clear hmm
  obtain ⟨WP, hWP⟩ : ∃ WP, WP = (W0.alloc (obP 5 (.slice none 0 0) (.slice none 0 0) 2 (.map (some (w.heap.size + 3))) (room - 1))).alloc (.map #[] 0) := ⟨_, rfl⟩
  have hz5 : (W0.alloc (obP 5 (.slice none 0 0) (.slice none 0 0) 2 (.map (some (w.heap.size + 3))) (room - 1))).heap.size = w.heap.size + 3 := by simp; omega
  have hbP : Below W0.heap.size W0 WP := by rw [hWP]; exact ((Below.refl _ _).alloc (Nat.le_refl _) _).alloc (by simp) _
  have HPP : Hid (WP.heap[w.heap.size + 2]? = some (obP 5 (.slice none 0 0) (.slice none 0 0) 2 (.map (some (w.heap.size + 3))) (room - 1))) := by
    rw [hWP, ← hz0]
    exact Lib.hid ((((Below.refl (W0.heap.size + 1) (W0.alloc (obP 5 (.slice none 0 0) (.slice none 0 0) 2 (.map (some (w.heap.size + 3))) (room - 1)))).alloc (by simp) _).block _ (by omega)).trans (heap_alloc_new W0 _))
  have HMP : Hid (SetM (w.heap.size + 3) [] WP) := by rw [hWP]; have h := SetM.made (W0.alloc (obP 5 (.slice none 0 0) (.slice none 0 0) 2 (.map (some (w.heap.size + 3))) (room - 1))); rw [hz5] at h; exact Lib.hid h
  rw [← hWP]
  clear hWP
  have HKP : Hid (WP.heap[w.heap.size]? = some (obT 1 ta tb tx tn)) := (hbP.block _ (by omega)).trans HK0.out
  have HRP : Hid (WP.heap[w.heap.size + 1]? = some (obV 0 false 0 ⟨#[]⟩ none 0 0 none 0 0)) := (hbP.block _ (by omega)).trans HR0.out
  have HGP : Hid (Grw (fun j => w.heap.size ≤ j) w WP) := Grw.of_below (HB0.out.trans (hbP.mono (by omega))) (fun k h1 h2 => h1)
  clear hbP a0 a1 a2 a3 a4
  go_wp2_with fail
  (with_reducible refine (HN.out WP HGP.out).mono ?_)
  rintro e w2 ⟨rfl, hg2, hp2⟩
  have HP2 := Lib.hid hp2
  have HG2 : Hid (WP.grownBy w2 (some g)) := hg2
  have HK2 : Hid (w2.heap[w.heap.size]? = some (obT 1 ta tb tx tn)) := (hg2.block _ (Array.getElem?_eq_some_iff.1 HKP.out).1 (fun e => by injection e with e; have := HGL.out; omega)).trans HKP.out
  have HR2 : Hid (w2.heap[w.heap.size + 1]? = some (obV 0 false 0 ⟨#[]⟩ none 0 0 none 0 0)) := (hg2.block _ (Array.getElem?_eq_some_iff.1 HRP.out).1 (fun e => by injection e with e; have := HGL.out; omega)).trans HRP.out
  have HP3 : Hid (w2.heap[w.heap.size + 2]? = some (obP 5 (.slice none 0 0) (.slice none 0 0) 2 (.map (some (w.heap.size + 3))) (room - 1))) := (hg2.block _ (Array.getElem?_eq_some_iff.1 HPP.out).1 (fun e => by injection e with e; have := HGL.out; omega)).trans HPP.out
  clear hg2 hp2
  obtain ⟨a0, a1, a2, a3, a4⟩ := cells5 HK2.out
  have f0 := frz HK2.out 0
  have f1 := frz HK2.out 1
  have f2 := frz HK2.out 2
  have f3 := frz HK2.out 3
  have f4 := frz HK2.out 4
  go_upto_region 7 with (fail)
  obtain ⟨w3, hw3⟩ : ∃ w3, w3 = (((((w2.setCell ⟨w.heap.size, 0, none⟩ (.int .i64 0)).setCell ⟨w.heap.size, 1, none⟩ (.int .i64 0)).setCell ⟨w.heap.size, 2, none⟩ (.int .i64 0)).setCell ⟨w.heap.size, 3, none⟩ (.string ⟨#[]⟩)).setCell ⟨w.heap.size, 4, none⟩ (.int .i64 0)) := ⟨_, rfl⟩
  have HK3 : Hid (w3.heap[w.heap.size]? = some (.cells #[.int .i64 0, .int .i64 0, .int .i64 0, .string ⟨#[]⟩, .int .i64 0] 60 (0, 0))) := by rw [hw3]; exact Lib.hid (set5 HK2.out _ _ _ _ _)
  have HZ3 : Hid (Grw (fun j => j = w.heap.size) w2 w3) := by rw [hw3]; exact Lib.hid (gr_set5 w2 w.heap.size _ _ _ _ _)
  have HR3 : Hid (w3.heap[w.heap.size + 1]? = some (obV 0 false 0 ⟨#[]⟩ none 0 0 none 0 0)) := (HZ3.out.block (Array.getElem?_eq_some_iff.1 HR2.out).1 (by omega)).trans HR2.out
  have HP4 : Hid (w3.heap[w.heap.size + 2]? = some (obP 5 (.slice none 0 0) (.slice none 0 0) 2 (.map (some (w.heap.size + 3))) (room - 1))) := (HZ3.out.block (Array.getElem?_eq_some_iff.1 HP3.out).1 (by omega)).trans HP3.out
  rw [← hw3]
  clear hw3 a0 a1 a2 a3 a4 f0 f1 f2 f3 f4
  obtain ⟨a0, a1, a2, a3, a4⟩ := cells5 HK3.out
  obtain ⟨u0, u1, u2, u3, u4, u5⟩ := cells6 HR3.out
  have r0 := frz HR3.out 0
  have r1 := frz HR3.out 1
  have r2 := frz HR3.out 2
  have r3 := frz HR3.out 3
  have r4 := frz HR3.out 4
  have r5 := frz HR3.out 5
  have nF := neF p x
  have HH := Lib.hid (set6 HR3.out (.int .i64 0) (.bool false) (.int .i64 0) (.string ⟨#[]⟩) (.slice none 0 0) (.slice none 0 0))
  have HZ := Lib.hid (gr_set6 w3 (w.heap.size + 1) (.int .i64 0) (.bool false) (.int .i64 0) (.string ⟨#[]⟩) (.slice none 0 0) (.slice none 0 0))
  go_wp2_with fail
  obtain ⟨d0, d1, d2, d3, d4, d5⟩ := cells6 HH.out
  clear u0 u1 u2 u3 u4 u5 r0 r1 r2 r3 r4 r5 a0 a1 a2 a3 a4
  (with_reducible refine bodyPost_ret (v := .tuple #[.agg #[.int .i64 0, .bool false, .int .i64 0, .string ⟨#[]⟩, .slice none 0 0, .slice none 0 0], .iface 45 (.agg #[.int .i64 p, .int .i64 x])]) (by simp [results, Tryz.results38, go_sem, d0, d1, d2, d3, d4, d5]) rfl ⟨rfl, ?_⟩)
  (with_reducible exact ⟨WP, HGP.out, w2, HG2.out, HP2.out, w3, HZ3.out, HZ.out⟩)
set_option maxRecDepth 100000 in
set_option maxHeartbeats 4000000 in
theorem parts_5 (g : Nat) (room ta tb tn : Int) (tx : ByteArray) (ta2 tb2 tn2 : Int) (tx2 : ByteArray) (w : World) (hgl : g < w.heap.size) (hr : 1 ≤ room) (hr2 : room ≤ 1000) (P2 : World → Prop) (HN : Hid (∀ V, Grw (fun j => w.heap.size ≤ j) w V → Calls Tryz.prog 16 #[.pointer (some ⟨g, 0, none⟩)] V fun e w' => e = .returned (.tuple #[.agg #[.int .i64 2, .int .i64 ta2, .int .i64 tb2, .string tx2, .int .i64 tn2], .nilIface]) ∧ V.grownBy w' (some g) ∧ P2 w')) :
    Calls Tryz.prog 38 #[.pointer (some ⟨g, 0, none⟩), .agg #[.int .i64 1, .int .i64 ta, .int .i64 tb, .string tx, .int .i64 tn], .int .i64 room] w fun e w' => e = .returned (.tuple #[.agg #[.int .i64 5, .bool false, .int .i64 0, .string ⟨#[]⟩, .slice none 0 0, .slice none 0 0], .nilIface]) ∧ ∃ V, Grw (fun j => w.heap.size ≤ j) w V ∧ ∃ w2, V.grownBy w2 (some g) ∧ P2 w2 ∧ ∃ w3, Grw (fun j => j = w.heap.size) w2 w3 ∧ Grw (fun j => j = w.heap.size + 1) w3 w' := by
  have HGL : Hid (g < w.heap.size) := hgl
  clear hgl
  obtain ⟨W0, hW0, hk0, hr0, hb0, hz0⟩ := two_it w 1 ta tb tx tn
  have HW0 := Lib.hid hW0
  have HK0 := Lib.hid hk0
  have HR0 := Lib.hid hr0
  have HB0 := Lib.hid hb0
  clear hW0 hk0 hr0 hb0
  go_enter Tryz.func38, Tryz.ntmps38
  go_upto_region 3 with (fail)
  rw [← HW0.out]
  have hq : IntKind.i64.wrap (room - 1) = room - 1 := by rw [IntKind.wrap_i64]; omega
  obtain ⟨a0, a1, a2, a3, a4⟩ := cells5 HK0.out
  have hmm := @run_makeMap Tryz.prog
  go_upto_region 6 with (fail)
  clear hmm
  obtain ⟨WP, hWP⟩ : ∃ WP, WP = (W0.alloc (obP 5 (.slice none 0 0) (.slice none 0 0) 2 (.map (some (w.heap.size + 3))) (room - 1))).alloc (.map #[] 0) := ⟨_, rfl⟩
  have hz5 : (W0.alloc (obP 5 (.slice none 0 0) (.slice none 0 0) 2 (.map (some (w.heap.size + 3))) (room - 1))).heap.size = w.heap.size + 3 := by simp; omega
  have hbP : Below W0.heap.size W0 WP := by rw [hWP]; exact ((Below.refl _ _).alloc (Nat.le_refl _) _).alloc (by simp) _
  have HPP : Hid (WP.heap[w.heap.size + 2]? = some (obP 5 (.slice none 0 0) (.slice none 0 0) 2 (.map (some (w.heap.size + 3))) (room - 1))) := by
    rw [hWP, ← hz0]
    exact Lib.hid ((((Below.refl (W0.heap.size + 1) (W0.alloc (obP 5 (.slice none 0 0) (.slice none 0 0) 2 (.map (some (w.heap.size + 3))) (room - 1)))).alloc (by simp) _).block _ (by omega)).trans (heap_alloc_new W0 _))
  have HMP : Hid (SetM (w.heap.size + 3) [] WP) := by rw [hWP]; have h := SetM.made (W0.alloc (obP 5 (.slice none 0 0) (.slice none 0 0) 2 (.map (some (w.heap.size + 3))) (room - 1))); rw [hz5] at h; exact Lib.hid h
  rw [← hWP]
  clear hWP
  have HKP : Hid (WP.heap[w.heap.size]? = some (obT 1 ta tb tx tn)) := (hbP.block _ (by omega)).trans HK0.out
  have HRP : Hid (WP.heap[w.heap.size + 1]? = some (obV 0 false 0 ⟨#[]⟩ none 0 0 none 0 0)) := (hbP.block _ (by omega)).trans HR0.out
  have HGP : Hid (Grw (fun j => w.heap.size ≤ j) w WP) := Grw.of_below (HB0.out.trans (hbP.mono (by omega))) (fun k h1 h2 => h1)
  clear hbP a0 a1 a2 a3 a4
  go_wp2_with fail
  (with_reducible refine (HN.out WP HGP.out).mono ?_)
  rintro e w2 ⟨rfl, hg2, hp2⟩
  have HP2 := Lib.hid hp2
  have HG2 : Hid (WP.grownBy w2 (some g)) := hg2
  have HK2 : Hid (w2.heap[w.heap.size]? = some (obT 1 ta tb tx tn)) := (hg2.block _ (Array.getElem?_eq_some_iff.1 HKP.out).1 (fun e => by injection e with e; have := HGL.out; omega)).trans HKP.out
  have HR2 : Hid (w2.heap[w.heap.size + 1]? = some (obV 0 false 0 ⟨#[]⟩ none 0 0 none 0 0)) := (hg2.block _ (Array.getElem?_eq_some_iff.1 HRP.out).1 (fun e => by injection e with e; have := HGL.out; omega)).trans HRP.out
  have HP3 : Hid (w2.heap[w.heap.size + 2]? = some (obP 5 (.slice none 0 0) (.slice none 0 0) 2 (.map (some (w.heap.size + 3))) (room - 1))) := (hg2.block _ (Array.getElem?_eq_some_iff.1 HPP.out).1 (fun e => by injection e with e; have := HGL.out; omega)).trans HPP.out
  clear hg2 hp2
  obtain ⟨a0, a1, a2, a3, a4⟩ := cells5 HK2.out
  have f0 := frz HK2.out 0
  have f1 := frz HK2.out 1
  have f2 := frz HK2.out 2
  have f3 := frz HK2.out 3
  have f4 := frz HK2.out 4
  go_upto_region 7 with (fail)
  obtain ⟨w3, hw3⟩ : ∃ w3, w3 = (((((w2.setCell ⟨w.heap.size, 0, none⟩ (.int .i64 2)).setCell ⟨w.heap.size, 1, none⟩ (.int .i64 ta2)).setCell ⟨w.heap.size, 2, none⟩ (.int .i64 tb2)).setCell ⟨w.heap.size, 3, none⟩ (.string tx2)).setCell ⟨w.heap.size, 4, none⟩ (.int .i64 tn2)) := ⟨_, rfl⟩
  have HK3 : Hid (w3.heap[w.heap.size]? = some (.cells #[.int .i64 2, .int .i64 ta2, .int .i64 tb2, .string tx2, .int .i64 tn2] 60 (0, 0))) := by rw [hw3]; exact Lib.hid (set5 HK2.out _ _ _ _ _)
  have HZ3 : Hid (Grw (fun j => j = w.heap.size) w2 w3) := by rw [hw3]; exact Lib.hid (gr_set5 w2 w.heap.size _ _ _ _ _)
  have HR3 : Hid (w3.heap[w.heap.size + 1]? = some (obV 0 false 0 ⟨#[]⟩ none 0 0 none 0 0)) := (HZ3.out.block (Array.getElem?_eq_some_iff.1 HR2.out).1 (by omega)).trans HR2.out
  have HP4 : Hid (w3.heap[w.heap.size + 2]? = some (obP 5 (.slice none 0 0) (.slice none 0 0) 2 (.map (some (w.heap.size + 3))) (room - 1))) := (HZ3.out.block (Array.getElem?_eq_some_iff.1 HP3.out).1 (by omega)).trans HP3.out
  rw [← hw3]
  clear hw3 a0 a1 a2 a3 a4 f0 f1 f2 f3 f4
  obtain ⟨a0, a1, a2, a3, a4⟩ := cells5 HK3.out
  obtain ⟨u0, u1, u2, u3, u4, u5⟩ := cells6 HR3.out
  have r0 := frz HR3.out 0
  have r1 := frz HR3.out 1
  have r2 := frz HR3.out 2
  have r3 := frz HR3.out 3
  have r4 := frz HR3.out 4
  have r5 := frz HR3.out 5
  have nN := neN
  have p0 := cell_of_row _ _ 0 _ _ _ HP4.out
  have p1 := cell_of_row _ _ 1 _ _ _ HP4.out
  have p2 := cell_of_row _ _ 2 _ _ _ HP4.out
  have p3 := cell_of_row _ _ 3 _ _ _ HP4.out
  have p4 := cell_of_row _ _ 4 _ _ _ HP4.out
  have p5 := cell_of_row _ _ 5 _ _ _ HP4.out
  have p6 := cell_of_row _ _ 6 _ _ _ HP4.out
  have p7 := cell_of_row _ _ 7 _ _ _ HP4.out
  have p8 := cell_of_row _ _ 8 _ _ _ HP4.out
  have HH := Lib.hid (set6 HR3.out (.int .i64 5) (.bool false) (.int .i64 0) (.string ⟨#[]⟩) (.slice none 0 0) (.slice none 0 0))
  have HZ := Lib.hid (gr_set6 w3 (w.heap.size + 1) (.int .i64 5) (.bool false) (.int .i64 0) (.string ⟨#[]⟩) (.slice none 0 0) (.slice none 0 0))
  go_wp2_with fail
  obtain ⟨d0, d1, d2, d3, d4, d5⟩ := cells6 HH.out
  clear u0 u1 u2 u3 u4 u5 r0 r1 r2 r3 r4 r5 a0 a1 a2 a3 a4
  (with_reducible refine bodyPost_ret (v := .tuple #[.agg #[.int .i64 5, .bool false, .int .i64 0, .string ⟨#[]⟩, .slice none 0 0, .slice none 0 0], .nilIface]) (by simp [results, Tryz.results38, go_sem, d0, d1, d2, d3, d4, d5]) rfl ⟨rfl, ?_⟩)
  (with_reducible exact ⟨WP, HGP.out, w2, HG2.out, HP2.out, w3, HZ3.out, HZ.out⟩)
end Go.Proofs.YtpgllcdcpdeicaaGreatDoor.Jv
namespace Go.Proofs.YtpgllcdcpdeicaaGreatDoor.Jv
open Jt
open Go.RowKit Go.ChangeMaps Go.MapKept Go.WideMaps
set_option linter.unusedSimpArgs false
set_option linter.unusedVariables false

/-- a token within a text of n bytes, with steps enough for a value that begins with it -/
def TkOk (n : Nat) (x : Tok) (f : Nat) : Prop := x.b ≤ n ∧ x.a ≤ n ∧ x.t.length ≤ 4 * (n + 1) ∧ 2 * (n - x.b) + 1 ≤ f
theorem nx_ok4 {l : List UInt8} {a : Nat} {t : Tok} (ha : a ≤ l.length) (h : nx l a = .ok t) : a < t.b ∧ t.b ≤ l.length ∧ t.a ≤ l.length ∧ t.t.length ≤ 4 * (l.length + 1) :=
  ⟨(nx_ok ha h).1, (nx_ok ha h).2, Nat.le_of_lt (nx_a h).2, nx_tt h⟩
theorem keyP_ok4 {l : List UInt8} {ks : List (List UInt8)} {t u : Tok} (ha : t.b ≤ l.length) (h : keyP l ks t = .ok u) : t.b < u.b ∧ u.b ≤ l.length ∧ u.a ≤ l.length ∧ u.t.length ≤ 4 * (l.length + 1) := by
  have h0 := keyP_ok ha h
  have h1 := keyP_a h
  refine ⟨h0.1, h0.2.1, Nat.le_of_lt h1, ?_⟩
  unfold keyP at h
  by_cases g1 : t.t ∈ ks ∨ t.k ≠ 7
  · rw [if_pos g1] at h; cases h
  · rw [if_neg g1] at h
    cases hx : nx l t.b with
    | error e => rw [hx] at h; cases h
    | ok v =>
      rw [hx] at h
      dsimp only at h
      by_cases g2 : v.k ≠ 5
      · rw [if_pos g2] at h; cases h
      · rw [if_neg g2] at h
        exact nx_tt h
theorem bhP_ok4 {l : List UInt8} {o : Bool} {b : Nat} {t : Tok} (hb : b ≤ l.length) (h : bhP l o b = .ok (.inr t)) : b + 1 < t.b ∧ t.b ≤ l.length ∧ t.a ≤ l.length ∧ t.t.length ≤ 4 * (l.length + 1) := by
  have h0 := bhP_more hb h
  have h1 := bhP_a h
  refine ⟨h0.1, h0.2, Nat.le_of_lt h1, ?_⟩
  unfold bhP at h
  cases hx : nx l b with
  | error e => rw [hx] at h; cases h
  | ok u =>
    rw [hx] at h; dsimp only at h
    by_cases g1 : u.k = lastK o
    · rw [if_pos g1] at h; cases h
    · rw [if_neg g1] at h
      by_cases g2 : u.k ≠ 6
      · rw [if_pos g2] at h; cases h
      · rw [if_neg g2] at h
        cases hy : nx l u.b with
        | error e => rw [hy] at h; cases h
        | ok v => rw [hy] at h; cases h; exact nx_tt hy
theorem itP_ok {l : List UInt8} {f : Nat} {o : Bool} {room : Int} {ks : List (List UInt8)} {t : Tok} {r : List (List UInt8) × JV × Nat} (hb : t.b ≤ l.length) (h : itP l f o room ks t = .ok r) : t.b ≤ r.2.2 ∧ r.2.2 ≤ l.length ∧ (o = true → r.1.length = ks.length + 1) ∧ (o = false → r.1 = ks) := by
  unfold itP at h
  cases o with
  | false =>
    rw [if_neg (by simp)] at h
    dsimp only at h
    cases hx : pv l f room t with
    | error e => rw [hx] at h; cases h
    | ok q =>
      rw [hx] at h
      cases h
      have := (read_ok l f).1 room t q hb hx
      exact ⟨this.1, this.2.1, (fun e => by cases e), fun _ => rfl⟩
  | true =>
    rw [if_pos rfl] at h
    cases hk : keyP l ks t with
    | error e => rw [hk] at h; cases h
    | ok u =>
      rw [hk] at h
      dsimp only at h
      have hu := keyP_ok4 hb hk
      cases hx : pv l f room u with
      | error e => rw [hx] at h; cases h
      | ok q =>
        rw [hx] at h
        cases h
        have := (read_ok l f).1 room u q hu.2.1 hx
        exact ⟨by dsimp only; omega, this.2.1, (fun _ => by simp), fun e => by cases e⟩
theorem PS.keep' {o : Bool} {pb mb B : Nat} {room : Int} {ks : List (List UInt8)} {xs : List JV} {w w' : World} {X : Nat → Prop} (h : PS o pb mb B room ks xs w) (hG : Grw X w w') (hp : ¬ X pb) (hm : o = true → ¬ X mb) (hB : ∀ j, B ≤ j → j < w.heap.size → ¬ X j) : PS o pb mb B room ks xs w' := by
  obtain ⟨vi, vk, css, h1, h2, h3, h4, h5, h6, h7⟩ := h
  refine ⟨vi, vk, css, (hG.block (Array.getElem?_eq_some_iff.1 h1).1 hp).trans h1, row_keep h2 hG (fun j e => ⟨(h4 j e).2.1, hB j (h4 j e).1 (h4 j e).2.1⟩), h3.keep ⟨hG.size, fun k hk hl => hG.block hl (hB k hk.1 hl)⟩,
    fun j e => ⟨(h4 j e).1, Nat.lt_of_lt_of_le (h4 j e).2.1 hG.size, (h4 j e).2.2⟩, fun j e => ⟨(h5 j e).1, Nat.lt_of_lt_of_le (h5 j e).2 hG.size⟩, fun e => ?_, h7⟩
  obtain ⟨k1, k2⟩ := h6 e
  exact ⟨k1.keep (hG.block k1.lt (hm e)), row_keep k2 hG (fun j e => ⟨(h5 j e).2, hB j (h5 j e).1 (h5 j e).2⟩)⟩
/-- where the blocks of a part stand -/
structure Pos (o : Bool) (g mb B T : Nat) : Prop where
  gT : g < T
  gN : 4 ≤ g
  bB : T + 3 ≤ B
  mB : mb < B
  m0 : mb ≠ T
  m1 : mb ≠ T + 1
  m2 : mb ≠ T + 2
  mg : o = true → mb ≠ g
  mo : mb = g ∨ T ≤ mb
  mN : 4 ≤ mb
/-- what lies while the loop goes: the token's block, the result's, the part, the reader -/
structure PL (o : Bool) (g mb B : Nat) (s : ByteArray) (room : Int) (ks : List (List UInt8)) (xs : List JV) (p : Nat) (O : Obj) (w V : World) : Prop where
  tb : V.heap[w.heap.size]? = some O
  rb : V.heap[w.heap.size + 1]? = some (obV 0 false 0 ⟨#[]⟩ none 0 0 none 0 0)
  ps : PS o (w.heap.size + 2) mb B room ks xs V
  rd : Rd g s p V
  ev : Env V
  gr : Grw (fun j => j = g ∨ w.heap.size ≤ j) w V
  sz : B ≤ V.heap.size
theorem PL.lt {o : Bool} {g mb B : Nat} {s : ByteArray} {room : Int} {ks : List (List UInt8)} {xs : List JV} {p : Nat} {O : Obj} {w V : World} (h : PL o g mb B s room ks xs p O w V) : w.heap.size + 2 < V.heap.size := by
  obtain ⟨vi, vk, css, h1, _⟩ := h.ps
  exact (Array.getElem?_eq_some_iff.1 h1).1
/-- behind an item -/
theorem PL.item {o : Bool} {g mb B : Nat} {s : ByteArray} {room : Int} {ks : List (List UInt8)} {xs : List JV} {p : Nat} {O : Obj} {w V V' : World} {e : Ending} {r : List (List UInt8) × JV × Nat} (hp : Pos o g mb B w.heap.size) (h : PL o g mb B s room ks xs p O w V)
    (hq : ItQ o g (w.heap.size + 2) mb B s room ks xs (.ok r) V e V') : e = .returned .nilIface ∧ PL o g mb B s room r.1 (xs ++ [r.2.1]) r.2.2 O w V' := by
  obtain ⟨hg, he, hps, hrd⟩ := hq
  have hl := h.lt
  obtain ⟨q1, q2, q3, q4, q5, q6, q7, q8, q9, q10⟩ := hp
  refine ⟨he, (hg.block (by omega) ?_).trans h.tb, (hg.block (by omega) ?_).trans h.rb, hps, hrd, env_grw h.ev hg (fun j _ e => ?_) (by omega), h.gr.trans hg (fun j _ e => ?_), Nat.le_trans h.sz hg.size⟩
  · rintro (e | e | e | e) <;> omega
  · rintro (e | e | e | e) <;> omega
  · rcases e with e | e | e | e <;> omega
  · rcases e with e | e | e | e <;> omega
theorem PL.item_er {o : Bool} {g mb B : Nat} {s : ByteArray} {room : Int} {ks : List (List UInt8)} {xs : List JV} {p : Nat} {O : Obj} {w V V' : World} {e : Ending} {r : Er} (hp : Pos o g mb B w.heap.size) (h : PL o g mb B s room ks xs p O w V)
    (hq : ItQ o g (w.heap.size + 2) mb B s room ks xs (.error r) V e V') : e = .returned (fauV r) ∧ V'.heap[w.heap.size + 1]? = some (obV 0 false 0 ⟨#[]⟩ none 0 0 none 0 0) ∧ (∃ a, a ≤ s.size ∧ Rd g s a V') ∧ Grw (fun j => j = g ∨ w.heap.size ≤ j) w V' := by
  obtain ⟨hg, he, hrd⟩ := hq
  have hl := h.lt
  obtain ⟨q1, q2, q3, q4, q5, q6, q7, q8, q9, q10⟩ := hp
  refine ⟨he, (hg.block (by omega) ?_).trans h.rb, hrd, h.gr.trans hg (fun j _ e => ?_)⟩
  · rintro (e | e | e | e) <;> omega
  · rcases e with e | e | e | e <;> omega
/-- behind a call that moves the reader alone -/
theorem PL.mv {o : Bool} {g mb B : Nat} {s : ByteArray} {room : Int} {ks : List (List UInt8)} {xs : List JV} {p p' : Nat} {O : Obj} {w V V' : World} (hp : Pos o g mb B w.heap.size) (h : PL o g mb B s room ks xs p O w V) (hg : V.grownBy V' (some g)) (hr : Rd g s p' V') : PL o g mb B s room ks xs p' O w V' := by
  have hl := h.lt
  obtain ⟨q1, q2, q3, q4, q5, q6, q7, q8, q9, q10⟩ := hp
  have hG : Grw (fun j => j = g) V V' := Grw.of_gb hg (fun j e => by injection e with e; exact e.symm)
  exact ⟨(hG.block (by omega) (by omega)).trans h.tb, (hG.block (by omega) (by omega)).trans h.rb, h.ps.keep' hG (by omega) (fun e => q8 e) (fun j h1 h2 => by omega), hr, env_gb h.ev hg q2 h.rd.lt, h.gr.trans hG (fun j _ e => .inl e), Nat.le_trans h.sz hG.size⟩
/-- the token's block, written -/
theorem PL.tok {o : Bool} {g mb B : Nat} {s : ByteArray} {room : Int} {ks : List (List UInt8)} {xs : List JV} {p : Nat} {O O' : Obj} {w V V' : World} (hp : Pos o g mb B w.heap.size) (h : PL o g mb B s room ks xs p O w V) (hG : Grw (fun j => j = w.heap.size) V V') (ht : V'.heap[w.heap.size]? = some O') : PL o g mb B s room ks xs p O' w V' := by
  have hl := h.lt
  have hs := h.sz
  obtain ⟨q1, q2, q3, q4, q5, q6, q7, q8, q9, q10⟩ := hp
  exact ⟨ht, (hG.block (by omega) (by omega)).trans h.rb, h.ps.keep' hG (by omega) (fun _ => by omega) (fun j h1 h2 => by omega), (hG.block h.rd.lt (by omega)).trans h.rd, env_grw h.ev hG (fun j _ e => by omega) (by omega), h.gr.trans hG (fun j _ e => .inr (by omega)), Nat.le_trans hs hG.size⟩
theorem gb_of_grw {X : Nat → Prop} {w w' : World} {g : Nat} (h : Grw X w w') (hx : ∀ j, j < w.heap.size → X j → j = g) : w.grownBy w' (some g) := ⟨h.1, h.2.1, h.2.2.1, h.2.2.2.1, fun k hk hn => h.block hk (fun x => hn (by rw [hx k hk x]))⟩
/-- where the reader stands, as it lies -/
def posR (g : Nat) (V : World) : Nat := match V.cell? ⟨g, 1, none⟩ with
  | some (.int _ a) => a.toNat
  | _ => 0
theorem posR_rd {g p : Nat} {s : ByteArray} {V : World} (h : Rd g s p V) : posR g V = p := by
  unfold posR
  rw [h.cells.2]
  simp
/-- value's contract, with fewer steps -/
def ValH (g F : Nat) (s : ByteArray) : Prop := ∀ f, f < F → ∀ (rm : Int) (x : Tok) (V : World), rm ≤ 1000 → TkOk s.size x f → Rd g s x.b V → Env V → Calls Tryz.prog 17 #[.pointer (some ⟨g, 0, none⟩), tkA x, .int .i64 rm] V (ValQ g s (pv s.data.toList f rm x) V)
/-- item's contract while the loop goes -/
theorem item_at {o : Bool} {g mb B F f : Nat} {s : ByteArray} {room : Int} {ks : List (List UInt8)} {xs : List JV} {t : Tok} {O : Obj} {w V : World} (hp : Pos o g mb B w.heap.size) (h : PL o g mb B s room ks xs t.b O w V) (hs : s.size ≤ 1000) (hr : room ≤ 1000) (HV : ValH g F s) (hf : f < F)
    (ht : t.b ≤ s.size ∧ t.a ≤ s.size ∧ t.t.length ≤ 4 * (s.size + 1) ∧ 2 * (s.size - t.b) + 1 ≤ f) (hx : xs.length ≤ 1000) (hk : o = true → ks.length = xs.length) (hn : o = false → ks = []) :
    Calls Tryz.prog 50 #[.pointer (some ⟨g, 0, none⟩), .pointer (some ⟨w.heap.size + 2, 0, none⟩), tkA t] V (ItQ o g (w.heap.size + 2) mb B s room ks xs (itP s.data.toList f o room ks t) V) := by
  have hl := size_l s
  obtain ⟨q1, q2, q3, q4, q5, q6, q7, q8, q9, q10⟩ := hp
  cases o with
  | false =>
    obtain rfl := hn rfl
    exact item_l g (w.heap.size + 2) mb B f s room xs t V h.rd h.ev (by omega) (by omega) q4 h.sz (by omega) q7 (by omega) h.ps (fun V' h1 h2 => HV f hf room t V' hr ht h1 h2)
  | true =>
    refine item_o g (w.heap.size + 2) mb B f s room ks xs t V h.rd h.ev q2 (by omega) q10 (by omega) (by omega) q4 h.sz (by omega) q7 (q8 rfl) hs ht.1 ht.2.1 (tt_max (l := s.data.toList) (by omega) (by rw [← hl]; exact ht.2.2.1)) (by omega) (hk rfl) h.ps (fun u V' hu h1 h2 => HV f hf room u V' hr ?_ h1 h2)
    have h4 := keyP_ok4 (by omega) hu
    rw [← hl] at h4
    exact ⟨h4.2.1, h4.2.2.1, h4.2.2.2, by have := ht.2.2.2; omega⟩
end Go.Proofs.YtpgllcdcpdeicaaGreatDoor.Jv
