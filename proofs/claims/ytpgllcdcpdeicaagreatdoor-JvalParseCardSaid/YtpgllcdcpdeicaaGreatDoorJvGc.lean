/- Contracts and plain mathematics of some packages' functions, laid together; conditions as each one says. -/
import Derived.Test.YtpgllcdcpdeicaaGreatDoorJvKeyD
import Derived.Test.YtpgllcdcpdeicaaGreatDoorJvGb
namespace Go.Proofs.YtpgllcdcpdeicaaGreatDoor.Jv
open Jt
open Go.RowKit Go.ChangeMaps Go.MapKept Go.WideMaps
set_option linter.unusedSimpArgs false
set_option linter.unusedVariables false

theorem env_grw {X : Nat → Prop} {w w' : World} (h : Env w) (hG : Grw X w w') (hX : ∀ j, j < w.heap.size → X j → 4 ≤ j) (hl : 4 ≤ w.heap.size) : Env w' := by
  have hb : Below 4 w w' := ⟨hG.1, hG.2.1, hG.2.2.1, hG.2.2.2.1, fun k hk => hG.block (by omega) (fun x => by have := hX k (by omega) x; omega)⟩
  refine ⟨h.1.below hb (by decide), ?_⟩
  unfold ET
  rw [World.cell?_of_block (hb.block _ (by decide))]
  exact h.2
/-- the blocks that reading a part may write -/
abbrev XO (g pb mb : Nat) (vk : Value) (j : Nat) : Prop := j = g ∨ j = pb ∨ j = mb ∨ vk.ownBlock = some j
def KyQ (g pb mb B : Nat) (s : ByteArray) (kd last room : Int) (vi vk : Value) (ks : List (List UInt8)) (t : Tok) (x : Except Er Tok) (w : World) (e : Ending) (w' : World) : Prop :=
  match x with
  | .ok u => e = .returned (.tuple #[tkA u, .nilIface]) ∧ Rd g s u.b w' ∧ KO g pb mb B kd last room vi vk ks t.t w w'
  | .error r => e = .returned (.tuple #[zTk, fauV r]) ∧ (∃ a, a ≤ s.size ∧ Rd g s a w') ∧ Grw (XO g pb mb vk) w w'
theorem KO.grw {g pb mb B : Nat} {kd last room : Int} {vi vk : Value} {ks : List (List UInt8)} {t : List UInt8} {w V : World} (h : KO g pb mb B kd last room vi vk ks t w V) : Grw (XO g pb mb vk) w V := by
  obtain ⟨_, _, _, _, _, _, _, h⟩ := h; exact h
theorem key_q (g pb mb B : Nat) (s : ByteArray) (kd last room : Int) (vi vk : Value) (ks : List (List UInt8)) (t : Tok) (w : World) (hR : Rd g s t.b w) (hE : Env w) (hg : 4 ≤ g) (hs : s.size ≤ 1000) (hb : t.b ≤ s.size) (ha : t.a ≤ s.size)
    (ht : (mkS t.t).size ≤ maxLen) (hn1 : ks.length + 1 ≤ 10000) (hP : w.heap[pb]? = some (obP kd vi vk last (.map (some mb)) room)) (hM : SetM mb ks w) (hO : w.ownsRow B 9 1 vk ks.length (kC ks)) (hBl : B ≤ w.heap.size)
    (hv : ∀ j, vk.ownBlock = some j → j < w.heap.size ∧ j ≠ g ∧ j ≠ pb ∧ j ≠ mb) (hpg : pb ≠ g) (hmg : mb ≠ g) (hpm : pb ≠ mb) (hNG : ∀ j, XO g pb mb vk j → 4 ≤ j) :
    Calls Tryz.prog 64 #[.pointer (some ⟨g, 0, none⟩), .pointer (some ⟨pb, 0, none⟩), tkA t] w (KyQ g pb mb B s kd last room vi vk ks t (keyP s.data.toList ks t) w) := by
  have hl := size_l s
  have hgl := hR.lt
  have hpl : pb < w.heap.size := (Array.getElem?_eq_some_iff.1 hP).1
  have hml := hM.lt
  have hmx : (10000 : Nat) ≤ maxLen := by decide
  have hgo : ∀ {V u : World}, KO g pb mb B kd last room vi vk ks t.t w V → Grw (fun j => j = g ∨ j = w.heap.size ∨ j = w.heap.size + 1) V u → KO g pb mb B kd last room vi vk ks t.t w u :=
    fun h k => h.go k hpl hml (fun j e => ⟨(hv j e).1, (hv j e).2.1⟩) hpg hmg hgl
  have t2 : ∀ {a b : World}, Grw (T2 w) a b → Grw (fun j => j = g ∨ j = w.heap.size ∨ j = w.heap.size + 1) a b := fun h => h.mono fun j _ e => .inr e
  have g2 : ∀ {a b : World}, a.grownBy b (some g) → Grw (fun j => j = g ∨ j = w.heap.size ∨ j = w.heap.size + 1) a b := fun h => Grw.of_gb h fun j e => .inl (by injection e with e; exact e.symm)
  have hEV : ∀ {V : World}, KO g pb mb B kd last room vi vk ks t.t w V → Env V := fun h => env_grw hE h.grw (fun j _ x => hNG j x) (by omega)
  have rd2 : ∀ {a b : World} {c : Nat}, Rd g s c a → Grw (T2 w) a b → Rd g s c b := fun h k => (k.block h.lt (by omega)).trans h
  by_cases h1 : t.t ∈ ks ∨ t.k ≠ 7
  · have hk : keyP s.data.toList ks t = .error (t.a, 3) := by unfold keyP; rw [if_pos h1]
    rw [hk]
    have fin : ∀ e w', (e = .returned (.tuple #[zTk, .iface 45 (.agg #[.int .i64 (t.a : Int), .int .i64 3])]) ∧ Below w.heap.size w w') → KyQ g pb mb B s kd last room vi vk ks t (.error (t.a, 3)) w e w' := fun e w' h =>
      ⟨h.1, ⟨t.b, hb, hR.go h.2⟩, Grw.of_below h.2 (fun k h1 h2 => by omega)⟩
    by_cases h2 : t.t ∈ ks
    · exact (key_1 g pb mb kd last room (t.k : Int) (t.a : Int) (t.b : Int) t.n t.t vi vk ks w ht (by simp [h2]) hP hM).mono fin
    · exact (key_2 g pb mb kd last room (t.k : Int) (t.a : Int) (t.b : Int) t.n t.t vi vk ks (by rcases h1 with h | h; exact absurd h h2; omega) w ht (by simp [h2]) hP hM).mono fin
  · have h2 : t.t ∉ ks := fun h => h1 (.inl h)
    have h7 : t.k = 7 := Classical.byContradiction fun h => h1 (.inr h)
    have htk : tkA t = .agg #[.int .i64 7, .int .i64 (t.a : Int), .int .i64 (t.b : Int), .string (mkS t.t), .int .i64 t.n] := by rw [tkA, h7]; rfl
    rw [htk]
    have hN : ∀ V, KO g pb mb B kd last room vi vk ks t.t w V → V.heap[g]? = w.heap[g]? → Calls Tryz.prog 16 #[.pointer (some ⟨g, 0, none⟩)] V (TkQ g s (nx s.data.toList t.b) V) :=
      fun V h k => next_q g t.b s V (k.trans hR) (hEV h) hs hb
    cases hx : nx s.data.toList t.b with
    | error r =>
      have hk : keyP s.data.toList ks t = .error r := by unfold keyP; rw [if_neg h1, hx]
      rw [hk]
      refine (key_3 g pb mb kd last room (t.a : Int) (t.b : Int) t.n t.t vi vk ks w ht (by simp [h2]) hP hM B (by omega) (by omega) (by omega) hBl hml hpm hv hO hgl hpg hmg (r.1 : Int) r.2 (fun w1 => ∃ c, c ≤ s.size ∧ Rd g s c w1) (Lib.hid fun V h k => (hN V h k).mono fun e w' hh => ?_)).mono ?_
      · rw [hx] at hh; exact ⟨hh.2.1, hh.1, hh.2.2⟩
      · rintro e w' ⟨he, V1, w1, k1, k2, ⟨c, hc, k3⟩, k4⟩
        exact ⟨he, ⟨c, hc, rd2 k3 k4⟩, (hgo (hgo k1 (g2 k2)) (t2 k4)).grw⟩
    | ok u =>
      have hu := nx_ok (by omega) hx
      by_cases h5 : u.k ≠ 5
      · have hk : keyP s.data.toList ks t = .error (u.a, 3) := by unfold keyP; rw [if_neg h1, hx]; dsimp only; rw [if_pos h5]
        rw [hk]
        refine (key_4 g pb mb kd last room (t.a : Int) (t.b : Int) t.n t.t vi vk ks w ht (by simp [h2]) hP hM B (by omega) (by omega) (by omega) hBl hml hpm hv hO hgl hpg hmg (u.k : Int) (u.a : Int) (u.b : Int) u.n (mkS u.t) (by omega) (fun w1 => Rd g s u.b w1) (Lib.hid fun V h k => (hN V h k).mono fun e w' hh => ?_)).mono ?_
        · rw [hx] at hh; exact ⟨hh.2.1, hh.1, hh.2.2⟩
        · rintro e w' ⟨he, V1, w1, k1, k2, k3, k4⟩
          exact ⟨he, ⟨u.b, by omega, rd2 k3 k4⟩, (hgo (hgo k1 (g2 k2)) (t2 k4)).grw⟩
      · have e5 : u.k = 5 := by omega
        have hk : keyP s.data.toList ks t = nx s.data.toList u.b := by unfold keyP; rw [if_neg h1, hx]; dsimp only; rw [if_neg h5]
        rw [hk]
        have h1st : ∀ V, KO g pb mb B kd last room vi vk ks t.t w V → V.heap[g]? = w.heap[g]? → Calls Tryz.prog 16 #[.pointer (some ⟨g, 0, none⟩)] V fun e w' => e = .returned (.tuple #[.agg #[.int .i64 5, .int .i64 (u.a : Int), .int .i64 (u.b : Int), .string (mkS u.t), .int .i64 u.n], .nilIface]) ∧ V.grownBy w' (some g) ∧ Rd g s u.b w' := by
          intro V h k
          refine (hN V h k).mono fun e w' hh => ?_
          rw [hx] at hh
          obtain ⟨i1, i2, i3⟩ := hh
          rw [tkA, e5] at i2
          exact ⟨i2, i1, i3⟩
        have hQ : ∀ V1 w1 u1, KO g pb mb B kd last room vi vk ks t.t w V1 → V1.grownBy w1 (some g) → Rd g s u.b w1 → Grw (T2 w) w1 u1 → Calls Tryz.prog 16 #[.pointer (some ⟨g, 0, none⟩)] u1 (TkQ g s (nx s.data.toList u.b) u1) :=
          fun V1 w1 u1 k1 k2 k3 k4 => next_q g u.b s u1 (rd2 k3 k4) (hEV (hgo (hgo k1 (g2 k2)) (t2 k4))) hs (by omega)
        cases hy : nx s.data.toList u.b with
        | error r =>
          refine (key_5 g pb mb kd last room (t.a : Int) (t.b : Int) t.n t.t vi vk ks w ht (by simp [h2]) hP hM B (by omega) (by omega) (by omega) hBl hml hpm hv hO hgl hpg hmg (u.a : Int) (u.b : Int) u.n 0 0 0 0 (mkS u.t) ⟨#[]⟩ (fauV r) (fun w1 => Rd g s u.b w1) (Lib.hid h1st) (fun w1 => ∃ c, c ≤ s.size ∧ Rd g s c w1) (Lib.hid fun V1 w1 u1 k1 k2 k3 k4 => (hQ V1 w1 u1 k1 k2 k3 k4).mono fun e w' hh => ?_)).mono ?_
          · rw [hy] at hh; exact ⟨hh.2.1, hh.1, hh.2.2⟩
          · rintro e w' ⟨he, V1, w1, u1, w2, k1, k2, k3, k4, k5, ⟨c, hc, k6⟩, k7⟩
            exact ⟨he, ⟨c, hc, rd2 k6 k7⟩, (hgo (hgo (hgo (hgo k1 (g2 k2)) (t2 k4)) (g2 k5)) (t2 k7)).grw⟩
        | ok v =>
          refine (key_5 g pb mb kd last room (t.a : Int) (t.b : Int) t.n t.t vi vk ks w ht (by simp [h2]) hP hM B (by omega) (by omega) (by omega) hBl hml hpm hv hO hgl hpg hmg (u.a : Int) (u.b : Int) u.n (v.k : Int) (v.a : Int) (v.b : Int) v.n (mkS u.t) (mkS v.t) .nilIface (fun w1 => Rd g s u.b w1) (Lib.hid h1st) (fun w1 => Rd g s v.b w1) (Lib.hid fun V1 w1 u1 k1 k2 k3 k4 => (hQ V1 w1 u1 k1 k2 k3 k4).mono fun e w' hh => ?_)).mono ?_
          · rw [hy] at hh; exact ⟨hh.2.1, hh.1, hh.2.2⟩
          · rintro e w' ⟨he, V1, w1, u1, w2, k1, k2, k3, k4, k5, k6, k7⟩
            exact ⟨he, rd2 k6 k7, hgo (hgo (hgo (hgo k1 (g2 k2)) (t2 k4)) (g2 k5)) (t2 k7)⟩
end Go.Proofs.YtpgllcdcpdeicaaGreatDoor.Jv
namespace Go.Proofs.YtpgllcdcpdeicaaGreatDoor.Jv
open Jt
open Go.RowKit Go.ChangeMaps Go.MapKept Go.WideMaps
set_option linter.unusedSimpArgs false
set_option linter.unusedVariables false

/-- a value's six cells -/
abbrev c6 (k : Int) (b : Bool) (n : Int) (tx : ByteArray) (ao : Option Addr) (l1 q1 : Nat) (ap : Option Addr) (l2 q2 : Nat) : List Value := [.int .i64 k, .bool b, .int .i64 n, .string tx, .slice ao l1 q1, .slice ap l2 q2]
abbrev obV (k : Int) (b : Bool) (n : Int) (tx : ByteArray) (ao : Option Addr) (l1 q1 : Nat) (ap : Option Addr) (l2 q2 : Nat) : Obj := .cells #[.int .i64 k, .bool b, .int .i64 n, .string tx, .slice ao l1 q1, .slice ap l2 q2] 25
theorem infoV : (Tryz.prog.info? 25).map (fun i => (i.zero, i.size, i.bytes)) = some (some (.agg #[.int .i64 0, .bool false, .int .i64 0, .string ⟨#[]⟩, .slice none 0 0, .slice none 0 0]), 6, 88) := by kernel_rfl
theorem set6 {w : World} {g : Nat} {a b c d e f : Value} {t : TypeId} (h : w.heap[g]? = some (.cells #[a, b, c, d, e, f] t (0, 0))) (x y z u v q : Value) : ((((((w.setCell ⟨g, 0, none⟩ x).setCell ⟨g, 1, none⟩ y).setCell ⟨g, 2, none⟩ z).setCell ⟨g, 3, none⟩ u).setCell ⟨g, 4, none⟩ v).setCell ⟨g, 5, none⟩ q).heap[g]? = some (.cells #[x, y, z, u, v, q] t (0, 0)) := by
  simpa using blk_set (blk_set (blk_set (blk_set (blk_set (blk_set h 0 x) 1 y) 2 z) 3 u) 4 v) 5 q
theorem cells6 {w : World} {g : Nat} {a b c d e f : Value} {t : TypeId} (h : w.heap[g]? = some (.cells #[a, b, c, d, e, f] t (0, 0))) : w.cell? ⟨g, 0, none⟩ = some a ∧ w.cell? ⟨g, 1, none⟩ = some b ∧ w.cell? ⟨g, 2, none⟩ = some c ∧ w.cell? ⟨g, 3, none⟩ = some d ∧ w.cell? ⟨g, 4, none⟩ = some e ∧ w.cell? ⟨g, 5, none⟩ = some f := ⟨cell_of_row _ _ 0 _ _ _ h, cell_of_row _ _ 1 _ _ _ h, cell_of_row _ _ 2 _ _ _ h, cell_of_row _ _ 3 _ _ _ h, cell_of_row _ _ 4 _ _ _ h, cell_of_row _ _ 5 _ _ _ h⟩
theorem gr_one (w : World) (r i : Nat) (v : Value) : Grw (fun j => j = r) w (w.setCell ⟨r, i, none⟩ v) := Grw.of_gb (gb_set w r i v) (fun j e => by injection e with e; exact e.symm)
theorem gr_set6 (w : World) (r : Nat) (x y z u v q : Value) : Grw (fun j => j = r) w ((((((w.setCell ⟨r, 0, none⟩ x).setCell ⟨r, 1, none⟩ y).setCell ⟨r, 2, none⟩ z).setCell ⟨r, 3, none⟩ u).setCell ⟨r, 4, none⟩ v).setCell ⟨r, 5, none⟩ q) :=
  (((((gr_one w r 0 x).trans (gr_one _ r 1 y) (fun _ _ h => h)).trans (gr_one _ r 2 z) (fun _ _ h => h)).trans (gr_one _ r 3 u) (fun _ _ h => h)).trans (gr_one _ r 4 v) (fun _ _ h => h)).trans (gr_one _ r 5 q) (fun _ _ h => h)
/-- item's two blocks: the token, the value -/
theorem two_it (w : World) (k ta tb : Int) (tx : ByteArray) (tn : Int) : ∃ W, W = (w.alloc (obT k ta tb tx tn)).alloc (obV 0 false 0 ⟨#[]⟩ none 0 0 none 0 0) ∧ W.heap[w.heap.size]? = some (obT k ta tb tx tn) ∧ W.heap[w.heap.size + 1]? = some (obV 0 false 0 ⟨#[]⟩ none 0 0 none 0 0) ∧ Below w.heap.size w W ∧ W.heap.size = w.heap.size + 2 := by
  refine ⟨_, rfl, ?_, ?_, ((Below.refl _ _).alloc (Nat.le_refl _) _).alloc (by simp) _, by simp⟩
  · exact (((Below.refl (w.heap.size + 1) (w.alloc (obT k ta tb tx tn))).alloc (by simp) _).block _ (by omega)).trans (heap_alloc_new w _)
  · have := heap_alloc_new (w.alloc (obT k ta tb tx tn)) (obV 0 false 0 ⟨#[]⟩ none 0 0 none 0 0)
    simpa using this
end Go.Proofs.YtpgllcdcpdeicaaGreatDoor.Jv
namespace Go.Proofs.YtpgllcdcpdeicaaGreatDoor.Jv
open Jt
open Go.RowKit Go.ChangeMaps Go.MapKept Go.WideMaps
set_option linter.unusedSimpArgs false
set_option linter.unusedVariables false

theorem row_keep {B : Nat} {e : TypeId} {sz : Nat} {v : Value} {n : Nat} {xs : List Value} {X : Nat → Prop} {w w' : World} (h : w.ownsRow B e sz v n xs) (hG : Grw X w w') (hv : ∀ j, v.ownBlock = some j → j < w.heap.size ∧ ¬ X j) : w'.ownsRow B e sz v n xs := by
  refine ⟨h.1, ?_⟩
  rcases h.2 with h | ⟨g, cap, cur, e1, e2, e3, e4⟩
  · exact .inl h
  · subst e1
    obtain ⟨k1, k2⟩ := hv g rfl
    exact .inr ⟨g, cap, cur, rfl, e2, (hG.block k1 k2).trans e3, e4⟩
/-- behind the append of a zero value: the part's block, the six new cells, no cell of the row frozen -/
theorem it_ap {B n g1 c1 pb : Nat} {v : Value} {xs : List Value} {w3 WB V : World} {o : Obj} {z0 z1 z2 z3 z4 z5 : Value} (hown : V.ownsRow B 25 6 (.slice (some ⟨g1, 0, none⟩) (n + 1) c1) (n + 1) (xs ++ [z0, z1, z2, z3, z4, z5])) (hgrow : WB.grownBy V v.ownBlock) (hB : Below w3.heap.size w3 WB) (hP : w3.heap[pb]? = some o) (hv : ∀ j, v.ownBlock = some j → j ≠ pb) (hat : v.ownBlock = some g1 ∨ g1 = WB.heap.size) :
    (g1 ≠ pb ∧ V.heap[pb]? = some o) ∧ (V.cell? ⟨g1, n * 6, none⟩ = some z0 ∧ V.cell? ⟨g1, n * 6 + 1, none⟩ = some z1 ∧ V.cell? ⟨g1, n * 6 + 2, none⟩ = some z2 ∧ V.cell? ⟨g1, n * 6 + 3, none⟩ = some z3 ∧ V.cell? ⟨g1, n * 6 + 4, none⟩ = some z4 ∧ V.cell? ⟨g1, n * 6 + 5, none⟩ = some z5) ∧ ∀ i, V.frozen? ⟨g1, i, none⟩ = false := by
  have hl : pb < w3.heap.size := (Array.getElem?_eq_some_iff.1 hP).1
  have hlen := hown.1
  rw [List.length_append] at hlen
  simp only [List.length_cons, List.length_nil] at hlen
  rcases hown.2 with ⟨e, _⟩ | ⟨gg, cap, cur, e, e2, e3, e4, e5, e6, e7⟩
  · cases e
  cases e
  refine ⟨⟨?_, (hgrow.block pb (by have := hB.size; omega) (fun e => hv pb e.symm rfl)).trans ((hB.block pb hl).trans hP)⟩, ?_, fun i => frz e3 i⟩
  · rcases hat with h | h
    · exact hv _ h
    · have := hB.size; omega
  have cel : ∀ i z, [z0, z1, z2, z3, z4, z5][i]? = some z → V.cell? ⟨g1, n * 6 + i, none⟩ = some z := by
    intro i z hz
    have hi : i < 6 := by
      rcases Nat.lt_or_ge i 6 with h | h
      · exact h
      · rw [List.getElem?_eq_none (by simpa using h)] at hz; cases hz
    rw [cell_of_row _ _ _ _ _ _ e3]
    have h1 : (cur.toList.take ((n + 1) * 6))[n * 6 + i]? = some z := by
      rw [e7, List.getElem?_append_right (by omega), show n * 6 + i - xs.length = i by omega]; exact hz
    rw [List.getElem?_take, if_pos (by omega)] at h1
    simpa using h1
  exact ⟨cel 0 z0 rfl, cel 1 z1 rfl, cel 2 z2 rfl, cel 3 z3 rfl, cel 4 z4 rfl, cel 5 z5 rfl⟩
theorem row_set {B : Nat} {e : TypeId} {sz g m c i : Nat} {ys : List Value} {w : World} (h : w.ownsRow B e sz (.slice (some ⟨g, 0, none⟩) m c) m ys) (v : Value) : (w.setCell ⟨g, i, none⟩ v).ownsRow B e sz (.slice (some ⟨g, 0, none⟩) m c) m (ys.set i v) := by
  refine ⟨by rw [List.length_set]; exact h.1, ?_⟩
  rcases h.2 with ⟨e1, _⟩ | ⟨gg, cap, cur, e1, e2, e3, e4, e5, e6, e7⟩
  · cases e1
  cases e1
  exact .inr ⟨_, _, cur.setIfInBounds i v, rfl, e2, blk_set e3 i v, e4, e5, by rw [Array.size_setIfInBounds]; exact e6, by rw [Array.toList_setIfInBounds, List.take_set, e7]⟩
theorem set_at {α : Type} (xs l : List α) {k i : Nat} (hk : k = xs.length + i) (v : α) : (xs ++ l).set k v = xs ++ l.set i v := by
  subst hk
  rw [List.set_append_right _ _ (by omega)]
  congr 2; omega
theorem row_set6 {B : Nat} {e : TypeId} {g n c : Nat} {xs : List Value} {z0 z1 z2 z3 z4 z5 : Value} {w : World} (h : w.ownsRow B e 6 (.slice (some ⟨g, 0, none⟩) (n + 1) c) (n + 1) (xs ++ [z0, z1, z2, z3, z4, z5])) (a b d u v q : Value) :
    ((((((w.setCell ⟨g, n * 6, none⟩ a).setCell ⟨g, n * 6 + 1, none⟩ b).setCell ⟨g, n * 6 + 2, none⟩ d).setCell ⟨g, n * 6 + 3, none⟩ u).setCell ⟨g, n * 6 + 4, none⟩ v).setCell ⟨g, n * 6 + 5, none⟩ q).ownsRow B e 6 (.slice (some ⟨g, 0, none⟩) (n + 1) c) (n + 1) (xs ++ [a, b, d, u, v, q]) := by
  have hl := h.1
  rw [List.length_append] at hl
  simp only [List.length_cons, List.length_nil] at hl
  have h1 := row_set (row_set (row_set (row_set (row_set (row_set (i := n * 6) h a) (i := n * 6 + 1) b) (i := n * 6 + 2) d) (i := n * 6 + 3) u) (i := n * 6 + 4) v) (i := n * 6 + 5) q
  rw [set_at xs _ (i := 0) (by omega), set_at xs _ (i := 1) (by omega), set_at xs _ (i := 2) (by omega), set_at xs _ (i := 3) (by omega), set_at xs _ (i := 4) (by omega), set_at xs _ (i := 5) (by omega)] at h1
  exact h1
theorem gr_row6 (w : World) (g n : Nat) (a b d u v q : Value) : Grw (fun j => j = g) w ((((((w.setCell ⟨g, n * 6, none⟩ a).setCell ⟨g, n * 6 + 1, none⟩ b).setCell ⟨g, n * 6 + 2, none⟩ d).setCell ⟨g, n * 6 + 3, none⟩ u).setCell ⟨g, n * 6 + 4, none⟩ v).setCell ⟨g, n * 6 + 5, none⟩ q) :=
  (((((gr_one w g _ a).trans (gr_one _ g _ b) (fun _ _ h => h)).trans (gr_one _ g _ d) (fun _ _ h => h)).trans (gr_one _ g _ u) (fun _ _ h => h)).trans (gr_one _ g _ v) (fun _ _ h => h)).trans (gr_one _ g _ q) (fun _ _ h => h)
/-- what lies when a value was appended -/
def IO (pb B n : Nat) (kd last room : Int) (vi vk vm : Value) (xs cs : List Value) (q : Nat) (w2 W : World) : Prop :=
  ∃ g1 c1, W.heap[pb]? = some (obP kd (.slice (some ⟨g1, 0, none⟩) (n + 1) c1) vk last vm room) ∧ W.ownsRow B 25 6 (.slice (some ⟨g1, 0, none⟩) (n + 1) c1) (n + 1) (xs ++ cs) ∧ g1 < W.heap.size ∧ (vi.ownBlock = some g1 ∨ w2.heap.size ≤ g1) ∧
    Grw (fun j => j = q ∨ j = pb ∨ vi.ownBlock = some j) w2 W
theorem it_fin {pb B n g1 c1 q : Nat} {kd last room : Int} {vi vk vm : Value} {xs : List Value} {w2 w3 WB V : World} {z0 z1 z2 z3 z4 z5 : Value} (hZ : Grw (fun j => j = q) w2 w3) (hB : Below w3.heap.size w3 WB)
    (hown : V.ownsRow B 25 6 (.slice (some ⟨g1, 0, none⟩) (n + 1) c1) (n + 1) (xs ++ [z0, z1, z2, z3, z4, z5])) (hgrow : WB.grownBy V vi.ownBlock) (hat : vi.ownBlock = some g1 ∨ g1 = WB.heap.size) (hlt : g1 < V.heap.size)
    (hP : V.heap[pb]? = some (obP kd vi vk last vm room)) (hgp : g1 ≠ pb) (a b d u v x : Value) :
    IO pb B n kd last room vi vk vm xs [a, b, d, u, v, x] q w2 (((((((V.setCell ⟨g1, n * 6, none⟩ a).setCell ⟨g1, n * 6 + 1, none⟩ b).setCell ⟨g1, n * 6 + 2, none⟩ d).setCell ⟨g1, n * 6 + 3, none⟩ u).setCell ⟨g1, n * 6 + 4, none⟩ v).setCell ⟨g1, n * 6 + 5, none⟩ x).setCell ⟨pb, 4, none⟩ (.slice (some ⟨g1, 0, none⟩) (n + 1) c1)) ∧
    IO pb B n kd last room vi vk vm xs [a, b, d, u, v, x] q w2 (((((((V.setCell ⟨pb, 4, none⟩ (.slice (some ⟨g1, 0, none⟩) (n + 1) c1)).setCell ⟨g1, n * 6, none⟩ a).setCell ⟨g1, n * 6 + 1, none⟩ b).setCell ⟨g1, n * 6 + 2, none⟩ d).setCell ⟨g1, n * 6 + 3, none⟩ u).setCell ⟨g1, n * 6 + 4, none⟩ v).setCell ⟨g1, n * 6 + 5, none⟩ x) := by
  have hs := hZ.size
  have hbs := hB.size
  have hpl : pb < V.heap.size := (Array.getElem?_eq_some_iff.1 hP).1
  have hat2 : vi.ownBlock = some g1 ∨ w2.heap.size ≤ g1 := by
    rcases hat with h | h
    · exact .inl h
    · exact .inr (by omega)
  have x0 : Grw (fun j => j = q ∨ j = pb ∨ vi.ownBlock = some j) w2 V := by
    have x1 := hZ.mono (Y := fun j => j = q ∨ j = pb ∨ vi.ownBlock = some j) (fun _ _ h => .inl h)
    have x2 := x1.trans (Grw.of_below (X := fun j => w3.heap.size ≤ j) hB (fun k h1 h2 => h1)) (fun j hj e => by omega)
    exact x2.trans (Grw.of_gb (X := fun j => vi.ownBlock = some j) hgrow (fun j e => e)) (fun j _ e => .inr (.inr e))
  have hg1X : ∀ j, j < w2.heap.size → j = g1 → j = q ∨ j = pb ∨ vi.ownBlock = some j := fun j hj e => by
    rcases hat2 with h | h
    · exact .inr (.inr (by rw [e]; exact h))
    · omega
  have sP : ∀ {W : World} (y : Value), W.heap[pb]? = some (obP kd vi vk last vm room) → (W.setCell ⟨pb, 4, none⟩ y).heap[pb]? = some (obP kd y vk last vm room) := fun y h => by
    have := blk_set h 4 y
    simpa using this
  constructor
  · have g6 := gr_row6 V g1 n a b d u v x
    have r6 := row_set6 hown a b d u v x
    generalize ((((((V.setCell ⟨g1, n * 6, none⟩ a).setCell ⟨g1, n * 6 + 1, none⟩ b).setCell ⟨g1, n * 6 + 2, none⟩ d).setCell ⟨g1, n * 6 + 3, none⟩ u).setCell ⟨g1, n * 6 + 4, none⟩ v).setCell ⟨g1, n * 6 + 5, none⟩ x) = V6 at g6 r6 ⊢
    have h6 : V6.heap[pb]? = some (obP kd vi vk last vm room) := (g6.block hpl (Ne.symm hgp)).trans hP
    have k6 := gr_one V6 pb 4 (.slice (some ⟨g1, 0, none⟩) (n + 1) c1)
    exact ⟨g1, c1, sP _ h6, row_keep r6 k6 (fun j e => by injection e with e; subst e; exact ⟨Nat.lt_of_lt_of_le hlt g6.size, hgp⟩), Nat.lt_of_lt_of_le hlt (Nat.le_trans g6.size k6.size), hat2,
      (x0.trans g6 hg1X).trans k6 (fun j _ e => .inr (.inl e))⟩
  · have k6 := gr_one V pb 4 (.slice (some ⟨g1, 0, none⟩) (n + 1) c1)
    have h6 := sP (.slice (some ⟨g1, 0, none⟩) (n + 1) c1) hP
    have o6 := row_keep hown k6 (fun j e => by injection e with e; subst e; exact ⟨hlt, hgp⟩)
    generalize V.setCell ⟨pb, 4, none⟩ (.slice (some ⟨g1, 0, none⟩) (n + 1) c1) = V6 at k6 h6 o6 ⊢
    have g6 := gr_row6 V6 g1 n a b d u v x
    exact ⟨g1, c1, (g6.block (Array.getElem?_eq_some_iff.1 h6).1 (Ne.symm hgp)).trans h6, row_set6 o6 a b d u v x, Nat.lt_of_lt_of_le hlt (Nat.le_trans k6.size g6.size), hat2,
      (x0.trans k6 (fun j _ e => .inr (.inl e))).trans g6 hg1X⟩
end Go.Proofs.YtpgllcdcpdeicaaGreatDoor.Jv
namespace Go.Proofs.YtpgllcdcpdeicaaGreatDoor.Jv
open Jt
open Go.RowKit Go.ChangeMaps Go.MapKept Go.WideMaps
set_option linter.unusedSimpArgs false
set_option linter.unusedVariables false

set_option maxRecDepth 100000 in
set_option maxHeartbeats 16000000 in
theorem item_3 (g pb mb : Nat) (room k ta tb tn : Int) (tx : ByteArray) (vi vk : Value) (p x : Int) (w : World) (hgl : g < w.heap.size) (hpg : pb ≠ g) (hP : w.heap[pb]? = some (obP 5 vi vk 2 (.map (some mb)) room))
    (X : Nat → Prop) (hX0 : ¬ X w.heap.size) (hX1 : ¬ X (w.heap.size + 1)) (PK : World → World → Value → Prop)
    (HK : Hid (∀ V, Grw (fun j => w.heap.size ≤ j) w V → V.heap.size = w.heap.size + 2 → Calls Tryz.prog 64 #[.pointer (some ⟨g, 0, none⟩), .pointer (some ⟨pb, 0, none⟩), .agg #[.int .i64 k, .int .i64 ta, .int .i64 tb, .string tx, .int .i64 tn]] V fun e w' => ∃ vk2, e = .returned (.tuple #[.agg #[.int .i64 0, .int .i64 0, .int .i64 0, .string ⟨#[]⟩, .int .i64 0], .iface 45 (.agg #[.int .i64 p, .int .i64 x])]) ∧ Grw X V w' ∧ PK V w' vk2)) :
    Calls Tryz.prog 50 #[.pointer (some ⟨g, 0, none⟩), .pointer (some ⟨pb, 0, none⟩), .agg #[.int .i64 k, .int .i64 ta, .int .i64 tb, .string tx, .int .i64 tn]] w fun e w' => e = .returned (.iface 45 (.agg #[.int .i64 p, .int .i64 x])) ∧ ∃ V w1 vk2, Grw (fun j => w.heap.size ≤ j) w V ∧ Grw X V w1 ∧ PK V w1 vk2 ∧ Grw (fun j => j = w.heap.size) w1 w' := by
  obtain ⟨W0, hW0, hk0, hr0, hb0, hz0⟩ := two_it w k ta tb tx tn
  have hpl : pb < w.heap.size := (Array.getElem?_eq_some_iff.1 hP).1
  have HW0 := Lib.hid hW0
  have HK0 := Lib.hid hk0
  have HR0 := Lib.hid hr0
  have HB0 := Lib.hid hb0
  have HP0 : Hid (W0.heap[pb]? = some (obP 5 vi vk 2 (.map (some mb)) room)) := (hb0.block _ hpl).trans hP
  have HGL : Hid (g < w.heap.size ∧ pb ≠ g) := ⟨hgl, hpg⟩
  clear hW0 hk0 hr0 hb0 hP hgl hpg
  go_enter Tryz.func50, Tryz.ntmps50
  go_upto_region 3 with (fail)
  rw [← HW0.out]
  have c0 := cell_of_row _ _ 0 _ _ _ HP0.out
  have HG0 : Hid (Grw (fun j => w.heap.size ≤ j) w W0) := Grw.of_below HB0.out (fun k h1 h2 => h1)
  obtain ⟨a0, a1, a2, a3, a4⟩ := cells5 HK0.out
  go_wp2_with fail
  (with_reducible refine (HK.out W0 HG0.out hz0).mono ?_)
  rintro e w1 ⟨vk2, rfl, hx1, hp1⟩
  clear c0 a0 a1 a2 a3 a4
  have HX1 : Hid (Grw X W0 w1) := hx1
  have HP1 := Lib.hid hp1
  have HT1 : Hid (w1.heap[w.heap.size]? = some (obT k ta tb tx tn)) := (hx1.block (by omega) hX0).trans HK0.out
  have HR1 : Hid (w1.heap[w.heap.size + 1]? = some (obV 0 false 0 ⟨#[]⟩ none 0 0 none 0 0)) := (hx1.block (by omega) hX1).trans HR0.out
  clear hx1 hp1
  obtain ⟨a0, a1, a2, a3, a4⟩ := cells5 HT1.out
  have f0 := frz HT1.out 0
  have f1 := frz HT1.out 1
  have f2 := frz HT1.out 2
  have f3 := frz HT1.out 3
  have f4 := frz HT1.out 4
  have nF := neF p x
  have HZ := Lib.hid (gr_set5 w1 w.heap.size (.int .i64 0) (.int .i64 0) (.int .i64 0) (.string ⟨#[]⟩) (.int .i64 0))
  go_wp2_with fail
  (with_reducible refine bodyPost_ret (v := .iface 45 (.agg #[.int .i64 p, .int .i64 x])) (by simp [results, Tryz.results50, go_sem]) rfl ?_)
  (with_reducible exact ⟨rfl, W0, w1, vk2, HG0.out, HX1.out, HP1.out, HZ.out⟩)
set_option maxRecDepth 100000 in
set_option maxHeartbeats 16000000 in
theorem item_4 (g pb mb : Nat) (room k ta tb tn : Int) (tx : ByteArray) (vi vk : Value) (p x k2 ta2 tb2 tn2 : Int) (tx2 : ByteArray) (w : World) (hgl : g < w.heap.size) (hpg : pb ≠ g) (hP : w.heap[pb]? = some (obP 5 vi vk 2 (.map (some mb)) room))
    (X : Nat → Prop) (hX0 : ¬ X w.heap.size) (hX1 : ¬ X (w.heap.size + 1)) (PK : World → World → Value → Prop)
    (HK : Hid (∀ V, Grw (fun j => w.heap.size ≤ j) w V → V.heap.size = w.heap.size + 2 → Calls Tryz.prog 64 #[.pointer (some ⟨g, 0, none⟩), .pointer (some ⟨pb, 0, none⟩), .agg #[.int .i64 k, .int .i64 ta, .int .i64 tb, .string tx, .int .i64 tn]] V fun e w' => ∃ vk2, e = .returned (.tuple #[.agg #[.int .i64 k2, .int .i64 ta2, .int .i64 tb2, .string tx2, .int .i64 tn2], .nilIface]) ∧ Grw X V w' ∧ PK V w' vk2)) (hPK : ∀ V u v2, PK V u v2 → u.heap[pb]? = some (obP 5 vi v2 2 (.map (some mb)) room))
    (PV : World → World → World → World → Value → List Value → Prop)
    (HV : Hid (∀ V0 w1 V vk2, Grw (fun j => w.heap.size ≤ j) w V0 → V0.heap.size = w.heap.size + 2 → Grw X V0 w1 → PK V0 w1 vk2 → Grw (fun j => j = w.heap.size) w1 V → Calls Tryz.prog 17 #[.pointer (some ⟨g, 0, none⟩), .agg #[.int .i64 k2, .int .i64 ta2, .int .i64 tb2, .string tx2, .int .i64 tn2], .int .i64 room] V fun e w' => ∃ xk xb xn xt xo xl xq yo yl yq, e = .returned (.tuple #[.agg #[.int .i64 xk, .bool xb, .int .i64 xn, .string xt, .slice xo xl xq, .slice yo yl yq], .iface 45 (.agg #[.int .i64 p, .int .i64 x])]) ∧ V.grownBy w' (some g) ∧ PV V0 w1 V w' vk2 (c6 xk xb xn xt xo xl xq yo yl yq))) :
    Calls Tryz.prog 50 #[.pointer (some ⟨g, 0, none⟩), .pointer (some ⟨pb, 0, none⟩), .agg #[.int .i64 k, .int .i64 ta, .int .i64 tb, .string tx, .int .i64 tn]] w fun e w' => e = .returned (.iface 45 (.agg #[.int .i64 p, .int .i64 x])) ∧ ∃ V0, Grw (fun j => w.heap.size ≤ j) w V0 ∧ ∃ w1, Grw X V0 w1 ∧ ∃ V, Grw (fun j => j = w.heap.size) w1 V ∧ ∃ w2, V.grownBy w2 (some g) ∧ ∃ vk2 l, PV V0 w1 V w2 vk2 l ∧ Grw (fun j => j = w.heap.size + 1) w2 w' := by
  obtain ⟨W0, hW0, hk0, hr0, hb0, hz0⟩ := two_it w k ta tb tx tn
  have hpl : pb < w.heap.size := (Array.getElem?_eq_some_iff.1 hP).1
  have HW0 := Lib.hid hW0
  have HK0 := Lib.hid hk0
  have HR0 := Lib.hid hr0
  have HB0 := Lib.hid hb0
  have HP0 : Hid (W0.heap[pb]? = some (obP 5 vi vk 2 (.map (some mb)) room)) := (hb0.block _ hpl).trans hP
  have HGL : Hid (g < w.heap.size ∧ pb ≠ g) := ⟨hgl, hpg⟩
  clear hW0 hk0 hr0 hb0 hP hgl hpg
  go_enter Tryz.func50, Tryz.ntmps50
  go_upto_region 3 with (fail)
  rw [← HW0.out]
  have c0 := cell_of_row _ _ 0 _ _ _ HP0.out
  have HG0 : Hid (Grw (fun j => w.heap.size ≤ j) w W0) := Grw.of_below HB0.out (fun k h1 h2 => h1)
  obtain ⟨a0, a1, a2, a3, a4⟩ := cells5 HK0.out
  go_wp2_with fail
  (with_reducible refine (HK.out W0 HG0.out hz0).mono ?_)
  rintro e w1 ⟨vk2, rfl, hx1, hp1⟩
  clear c0 a0 a1 a2 a3 a4
  have HX1 : Hid (Grw X W0 w1) := hx1
  have HP1 := Lib.hid hp1
  have HT1 : Hid (w1.heap[w.heap.size]? = some (obT k ta tb tx tn)) := (hx1.block (by omega) hX0).trans HK0.out
  have HR1 : Hid (w1.heap[w.heap.size + 1]? = some (obV 0 false 0 ⟨#[]⟩ none 0 0 none 0 0)) := (hx1.block (by omega) hX1).trans HR0.out
  clear hx1 hp1
  obtain ⟨a0, a1, a2, a3, a4⟩ := cells5 HT1.out
  have f0 := frz HT1.out 0
  have f1 := frz HT1.out 1
  have f2 := frz HT1.out 2
  have f3 := frz HT1.out 3
  have f4 := frz HT1.out 4
  have nN := neN
  have HQ1 : Hid (w1.heap[pb]? = some (obP 5 vi vk2 2 (.map (some mb)) room)) := hPK _ _ _ HP1.out
  clear a0 a1 a2 a3 a4 f0 f1 f2 f3 f4
  obtain ⟨a0, a1, a2, a3, a4⟩ := cells5 HT1.out
  have f0 := frz HT1.out 0
  have f1 := frz HT1.out 1
  have f2 := frz HT1.out 2
  have f3 := frz HT1.out 3
  have f4 := frz HT1.out 4
  go_upto_region 9 with (fail)
  obtain ⟨ws, hws⟩ : ∃ ws, ws = ((((((w1.setCell ⟨w.heap.size, 0, none⟩ (.int .i64 k2)).setCell ⟨w.heap.size, 1, none⟩ (.int .i64 ta2)).setCell ⟨w.heap.size, 2, none⟩ (.int .i64 tb2)).setCell ⟨w.heap.size, 3, none⟩ (.string tx2)).setCell ⟨w.heap.size, 4, none⟩ (.int .i64 tn2))) := ⟨_, rfl⟩
  have HZs : Hid (Grw (fun j => j = w.heap.size) w1 ws) := by rw [hws]; exact Lib.hid (gr_set5 w1 w.heap.size (.int .i64 k2) (.int .i64 ta2) (.int .i64 tb2) (.string tx2) (.int .i64 tn2))
  have HTs : Hid (ws.heap[w.heap.size]? = some (obT k2 ta2 tb2 tx2 tn2)) := by rw [hws]; exact Lib.hid (set5 HT1.out (.int .i64 k2) (.int .i64 ta2) (.int .i64 tb2) (.string tx2) (.int .i64 tn2))
  have hs1 : w.heap.size + 1 < w1.heap.size := (Array.getElem?_eq_some_iff.1 HR1.out).1
  have HRs : Hid (ws.heap[w.heap.size + 1]? = some (obV 0 false 0 ⟨#[]⟩ none 0 0 none 0 0)) := (HZs.out.block hs1 (by omega)).trans HR1.out
  have HQs : Hid (ws.heap[pb]? = some (obP 5 vi vk2 2 (.map (some mb)) room)) := (HZs.out.block (Array.getElem?_eq_some_iff.1 HQ1.out).1 (by omega)).trans HQ1.out
  have hss : w1.heap.size ≤ ws.heap.size := HZs.out.size
  rw [← hws]
  clear hws a0 a1 a2 a3 a4 f0 f1 f2 f3 f4
  have HKS : Hid (∀ V : World, V.heap[w.heap.size]? = some (obT k2 ta2 tb2 tx2 tn2) → V.heap[pb]? = some (obP 5 vi vk2 2 (.map (some mb)) room) → V.cell? ⟨w.heap.size, 0, none⟩ = some (.int .i64 k2) ∧ V.cell? ⟨w.heap.size, 1, none⟩ = some (.int .i64 ta2) ∧ V.cell? ⟨w.heap.size, 2, none⟩ = some (.int .i64 tb2) ∧ V.cell? ⟨w.heap.size, 3, none⟩ = some (.string tx2) ∧ V.cell? ⟨w.heap.size, 4, none⟩ = some (.int .i64 tn2) ∧ V.cell? ⟨pb, 8, none⟩ = some (.int .i64 room)) := by
    intro V h1 h2
    obtain ⟨a0, a1, a2, a3, a4⟩ := cells5 h1
    exact Lib.hid ⟨a0, a1, a2, a3, a4, cell_of_row _ _ 8 _ _ _ h2⟩
  have HSA : Hid (ws.cell? ⟨w.heap.size, 0, none⟩ = some (.int .i64 k2) ∧ ws.cell? ⟨w.heap.size, 1, none⟩ = some (.int .i64 ta2) ∧ ws.cell? ⟨w.heap.size, 2, none⟩ = some (.int .i64 tb2) ∧ ws.cell? ⟨w.heap.size, 3, none⟩ = some (.string tx2) ∧ ws.cell? ⟨w.heap.size, 4, none⟩ = some (.int .i64 tn2) ∧ ws.cell? ⟨pb, 8, none⟩ = some (.int .i64 room)) := HKS.out ws HTs.out HQs.out
  have HSD : Hid (ws.drew.cell? ⟨w.heap.size, 0, none⟩ = some (.int .i64 k2) ∧ ws.drew.cell? ⟨w.heap.size, 1, none⟩ = some (.int .i64 ta2) ∧ ws.drew.cell? ⟨w.heap.size, 2, none⟩ = some (.int .i64 tb2) ∧ ws.drew.cell? ⟨w.heap.size, 3, none⟩ = some (.string tx2) ∧ ws.drew.cell? ⟨w.heap.size, 4, none⟩ = some (.int .i64 tn2) ∧ ws.drew.cell? ⟨pb, 8, none⟩ = some (.int .i64 room)) := HKS.out ws.drew HTs.out HQs.out
  have HGD : Hid (Grw (fun j => j = w.heap.size) w1 ws.drew) := (HZs.out : Grw (fun j => j = w.heap.size) w1 ws)
  have hzD : W0.drew.heap.size = w.heap.size + 2 := hz0
  have HKD : Hid (ws.drew.heap[w.heap.size]? = some (obT k2 ta2 tb2 tx2 tn2)) := HTs.out
  go_region_held3 (fun V => V.cell? ⟨w.heap.size, 0, none⟩ = some (.int .i64 k2) ∧ V.cell? ⟨w.heap.size, 1, none⟩ = some (.int .i64 ta2) ∧ V.cell? ⟨w.heap.size, 2, none⟩ = some (.int .i64 tb2) ∧ V.cell? ⟨w.heap.size, 3, none⟩ = some (.string tx2) ∧ V.cell? ⟨w.heap.size, 4, none⟩ = some (.int .i64 tn2) ∧ V.cell? ⟨pb, 8, none⟩ = some (.int .i64 room))
    (first | (with_reducible exact HSD.out) | (with_reducible exact HS2.out) | (with_reducible exact HS3.out))
    ((go_at_call 17; (with_reducible refine (HV.out W0 w1 ws.drew vk2 HG0.out hz0 HX1.out HP1.out HGD.out).mono ?_); rintro e w2 ⟨xk, xb, xn, xt, xo, xl, xq, yo, yl, yq, rfl, hg2, hp2⟩; have HP2 := Lib.hid hp2; have HG2D : Hid (ws.drew.grownBy w2 (some g)) := hg2; have HG2 : Hid (ws.grownBy w2 (some g)) := ⟨hg2.os, hg2.tape, hg2.output, hg2.size, hg2.block⟩; have HT2 : Hid (w2.heap[w.heap.size]? = some (obT k2 ta2 tb2 tx2 tn2)) := (HG2.out.block _ (by omega) (fun e => by injection e with e; have := HGL.out; omega)).trans HTs.out; have HR2 : Hid (w2.heap[w.heap.size + 1]? = some (obV 0 false 0 ⟨#[]⟩ none 0 0 none 0 0)) := (HG2.out.block _ (by omega) (fun e => by injection e with e; have := HGL.out; omega)).trans HRs.out; have HQ2 : Hid (w2.heap[pb]? = some (obP 5 vi vk2 2 (.map (some mb)) room)) := (HG2.out.block _ (by omega) (fun e => by injection e with e; have := HGL.out; omega)).trans HQs.out; have HS2 := Lib.hid (HKS.out w2 HT2.out HQ2.out); have gx := gr_set6 w2 (w.heap.size + 1) (.int .i64 xk) (.bool xb) (.int .i64 xn) (.string xt) (.slice xo xl xq) (.slice yo yl yq); have HS3 := Lib.hid (HKS.out _ ((gx.block (Array.getElem?_eq_some_iff.1 HT2.out).1 (by omega)).trans HT2.out) ((gx.block (Array.getElem?_eq_some_iff.1 HQ2.out).1 (by omega)).trans HQ2.out)); obtain ⟨b0, b1, b2, b3, b4, b5⟩ := cells6 HR2.out; have e0 := frz HR2.out 0; have e1 := frz HR2.out 1; have e2 := frz HR2.out 2; have e3 := frz HR2.out 3; have e4 := frz HR2.out 4; have e5 := frz HR2.out 5; clear hg2 hp2 gx))
  clear b0 b1 b2 b3 b4 b5 e0 e1 e2 e3 e4 e5 HS2 HS3 HSA HSD HKS
  have HZ := Lib.hid (gr_set6 w2 (w.heap.size + 1) (.int .i64 xk) (.bool xb) (.int .i64 xn) (.string xt) (.slice xo xl xq) (.slice yo yl yq))
  have nF := neF p x
  go_wp2_with fail
  (with_reducible refine bodyPost_ret (v := .iface 45 (.agg #[.int .i64 p, .int .i64 x])) (by simp [results, Tryz.results50, go_sem]) rfl ?_)
  (with_reducible exact ⟨rfl, W0, HG0.out, w1, HX1.out, ws.drew, HGD.out, w2, HG2D.out, vk2, _, HP2.out, HZ.out⟩)
end Go.Proofs.YtpgllcdcpdeicaaGreatDoor.Jv
namespace Go.Proofs.YtpgllcdcpdeicaaGreatDoor.Jv
open Jt
open Go.RowKit Go.ChangeMaps Go.MapKept Go.WideMaps
set_option linter.unusedSimpArgs false
set_option linter.unusedVariables false

abbrev zVl : Value := .agg #[.int .i64 0, .bool false, .int .i64 0, .string ⟨#[]⟩, .slice none 0 0, .slice none 0 0]
/-- what value, parts and whole answer -/
def ValQ (g : Nat) (s : ByteArray) (x : Except Er (JV × Nat)) (w : World) (e : Ending) (w' : World) : Prop :=
  w.grownBy w' (some g) ∧ match x with
  | .ok r => ∃ xk xb xn xt xo xl xq yo yl yq, e = .returned (.tuple #[.agg (c6 xk xb xn xt xo xl xq yo yl yq).toArray, .nilIface]) ∧ Rep (fun k => w.heap.size ≤ k) w' r.1 (c6 xk xb xn xt xo xl xq yo yl yq) ∧ Rd g s r.2 w'
  | .error r => e = .returned (.tuple #[zVl, fauV r]) ∧ ∃ a, a ≤ s.size ∧ Rd g s a w'
/-- where a tree of a part may lie -/
abbrev PP (B : Nat) (vi vk : Value) (k : Nat) : Prop := B ≤ k ∧ vi.ownBlock ≠ some k ∧ vk.ownBlock ≠ some k
/-- a part as far as it was read -/
def PS (o : Bool) (pb mb B : Nat) (room : Int) (ks : List (List UInt8)) (xs : List JV) (w : World) : Prop :=
  ∃ vi vk css, w.heap[pb]? = some (obP (kndV o) vi vk ((lastK o : Nat) : Int) (.map (if o then some mb else none)) room) ∧
    w.ownsRow B 25 6 vi xs.length (List.flatten css) ∧ RepA (PP B vi vk) w xs css ∧ (∀ j, vi.ownBlock = some j → B ≤ j ∧ j < w.heap.size ∧ vk.ownBlock ≠ some j) ∧ (∀ j, vk.ownBlock = some j → B ≤ j ∧ j < w.heap.size) ∧
    (o = true → SetM mb ks w ∧ w.ownsRow B 9 1 vk ks.length (kC ks)) ∧ (o = false → vk = .slice none 0 0 ∧ ks = [])
/-- a part stays where its own blocks, the rows' and those above B stand -/
theorem PS.keep {o : Bool} {pb mb B : Nat} {room : Int} {ks : List (List UInt8)} {xs : List JV} {w w' : World} {X : Nat → Prop} (h : PS o pb mb B room ks xs w) (hG : Grw X w w') (hp : ¬ X pb) (hm : ¬ X mb) (hB : ∀ j, B ≤ j → j < w.heap.size → ¬ X j) : PS o pb mb B room ks xs w' := by
  obtain ⟨vi, vk, css, h1, h2, h3, h4, h5, h6, h7⟩ := h
  refine ⟨vi, vk, css, (hG.block (Array.getElem?_eq_some_iff.1 h1).1 hp).trans h1, row_keep h2 hG (fun j e => ⟨(h4 j e).2.1, hB j (h4 j e).1 (h4 j e).2.1⟩), h3.keep ⟨hG.size, fun k hk hl => hG.block hl (hB k hk.1 hl)⟩,
    fun j e => ⟨(h4 j e).1, Nat.lt_of_lt_of_le (h4 j e).2.1 hG.size, (h4 j e).2.2⟩, fun j e => ⟨(h5 j e).1, Nat.lt_of_lt_of_le (h5 j e).2 hG.size⟩, fun e => ?_, h7⟩
  obtain ⟨k1, k2⟩ := h6 e
  exact ⟨k1.keep (hG.block k1.lt hm), row_keep k2 hG (fun j e => ⟨(h5 j e).2, hB j (h5 j e).1 (h5 j e).2⟩)⟩
/-- the finished part's value -/
theorem PS.rep {o : Bool} {pb mb B : Nat} {room : Int} {ks : List (List UInt8)} {xs : List JV} {w : World} (h : PS o pb mb B room ks xs w) : ∃ ao l1 q1 ap l2 q2, w.heap[pb]? = some (obP (kndV o) (.slice ao l1 q1) (.slice ap l2 q2) ((lastK o : Nat) : Int) (.map (if o then some mb else none)) room) ∧
    Rep (fun k => B ≤ k) w (.mk (kndV o) false 0 [] xs ks) (c6 (kndV o) false 0 ⟨#[]⟩ ao l1 q1 ap l2 q2) := by
  obtain ⟨vi, vk, css, h1, h2, h3, h4, h5, h6, h7⟩ := h
  have hk : ∃ ap l2 q2, vk = .slice ap l2 q2 ∧ RdK (fun k => B ≤ k) w vk ks := by
    cases o with
    | false =>
      obtain ⟨rfl, rfl⟩ := h7 rfl
      exact ⟨none, 0, 0, rfl, rdk_nil _ _⟩
    | true =>
      obtain ⟨_, h8⟩ := h6 rfl
      rcases h8.2 with ⟨rfl, h9⟩ | ⟨g, cap, cur, rfl, e2, e3, e4, e5, e6, e7⟩
      · have : ks = [] := List.eq_nil_of_length_eq_zero h9
        subst this
        exact ⟨_, _, _, rfl, rdk_nil _ _⟩
      · refine ⟨_, _, _, rfl, some ⟨g, 0, none⟩, cap, rfl, e4, fun _ => ⟨g, 0, rfl, e2, (Array.getElem?_eq_some_iff.1 e3).1, fun j v hv => ?_⟩⟩
        rw [cell_of_row _ _ _ _ _ _ e3, Nat.zero_add]
        have hj : j < ks.length * 1 := by
          rcases Nat.lt_or_ge j (kC ks).length with h | h
          · simpa using h
          · rw [List.getElem?_eq_none h] at hv; cases hv
        have h10 : (cur.toList.take (ks.length * 1))[j]? = some v := by rw [e7]; exact hv
        rw [List.getElem?_take, if_pos hj] at h10
        simpa using h10
  obtain ⟨ap, l2, q2, rfl, hk⟩ := hk
  have hx : ∃ ao q1, vi = .slice ao xs.length q1 ∧ (xs ≠ [] → ∃ g off, ao = some ⟨g, off, none⟩ ∧ B ≤ g ∧ g < w.heap.size ∧ RepL (fun k => B ≤ k) w xs g off) := by
    rcases h2.2 with ⟨rfl, h9⟩ | ⟨g, cap, cur, rfl, e2, e3, e4, e5, e6, e7⟩
    · exact ⟨none, 0, by rw [h9], fun h => absurd (List.eq_nil_of_length_eq_zero h9) h⟩
    · refine ⟨some ⟨g, 0, none⟩, cap, rfl, fun _ => ⟨g, 0, rfl, e2, (Array.getElem?_eq_some_iff.1 e3).1, RepA.list (h3.mono fun k hk _ => hk.1) (fun j v hv => ?_)⟩⟩
      rw [cell_of_row _ _ _ _ _ _ e3, Nat.zero_add]
      have hl := h2.1
      have hj : j < xs.length * 6 := by
        rcases Nat.lt_or_ge j (List.flatten css).length with h | h
        · omega
        · rw [List.getElem?_eq_none h] at hv; cases hv
      have h10 : (cur.toList.take (xs.length * 6))[j]? = some v := by rw [e7]; exact hv
      rw [List.getElem?_take, if_pos hj] at h10
      simpa using h10
  obtain ⟨ao, q1, rfl, hx⟩ := hx
  refine ⟨ao, xs.length, q1, ap, l2, q2, h1, ?_⟩
  unfold Rep
  exact ⟨ao, q1, _, rfl, hk, hx⟩
/-- a value behind the others -/
theorem PS.snoc {o : Bool} {pb mb B n q : Nat} {room : Int} {ks : List (List UInt8)} {xs : List JV} {x : JV} {vi vk : Value} {css : List (List Value)} {cs : List Value} {w2 W : World}
    (h1 : IO pb B n (kndV o) ((lastK o : Nat) : Int) room vi vk (.map (if o then some mb else none)) (List.flatten css) cs q w2 W) (hn : n = xs.length) (h3 : RepA (fun k => PP B vi vk k ∧ k ≠ q) w2 xs css) (hx : Rep (fun k => PP B vi vk k ∧ k ≠ q) w2 x cs)
    (h4 : ∀ j, vi.ownBlock = some j → B ≤ j ∧ j < w2.heap.size ∧ vk.ownBlock ≠ some j) (h5 : ∀ j, vk.ownBlock = some j → B ≤ j ∧ j < w2.heap.size) (h6 : o = true → SetM mb ks w2 ∧ w2.ownsRow B 9 1 vk ks.length (kC ks)) (h7 : o = false → vk = .slice none 0 0 ∧ ks = [])
    (hq : vk.ownBlock ≠ some q) (hp : pb < B) (hmq : mb ≠ q) (hmp : mb ≠ pb) (hmB : mb < B) (hBl : B ≤ w2.heap.size) : PS o pb mb B room ks (xs ++ [x]) W := by
  obtain ⟨g1, c1, k1, k2, k3, k4, k5⟩ := h1
  subst hn
  have kep : Kep (fun k => PP B vi vk k ∧ k ≠ q) w2 W := ⟨k5.size, fun k hk hl => k5.block hl (by rintro (e | e | e); exact hk.2 e; have := hk.1.1; omega; exact hk.1.2.1 e)⟩
  have hg1 : B ≤ g1 ∧ vk.ownBlock ≠ some g1 := by
    rcases k4 with h | h
    · exact ⟨(h4 _ h).1, (h4 _ h).2.2⟩
    · exact ⟨by omega, fun e => by have := (h5 _ e).2; omega⟩
  have mon : ∀ k, PP B vi vk k → k < w2.heap.size → PP B (.slice (some ⟨g1, 0, none⟩) (xs.length + 1) c1) vk k := fun k hk hl => ⟨hk.1, fun e => by
    have e : g1 = k := by injection e
    rcases k4 with h | h
    · exact hk.2.1 (by rw [← e]; exact h)
    · omega, hk.2.2⟩
  refine ⟨_, vk, css ++ [cs], k1, ?_, RepA.mono (fun k hk _ => hk.2) (RepA.keep (P := fun k => (PP B vi vk k ∧ k ≠ q) ∧ PP B (.slice (some ⟨g1, 0, none⟩) (xs.length + 1) c1) vk k) ⟨k5.size, fun k hk hl => kep.2 k hk.1 hl⟩ (RepA.snoc (hx.mono fun k hk hl => ⟨hk, mon k hk.1 hl⟩) (h3.mono fun k hk hl => ⟨hk, mon k hk.1 hl⟩))), fun j e => ?_, fun j e => ⟨(h5 j e).1, Nat.lt_of_lt_of_le (h5 j e).2 k5.size⟩, fun e => ?_, h7⟩
  · rw [List.length_append, List.flatten_append]
    simpa using k2
  · have e : g1 = j := by injection e
    subst e
    exact ⟨hg1.1, k3, hg1.2⟩
  · obtain ⟨m1, m2⟩ := h6 e
    exact ⟨m1.keep (k5.block m1.lt (by rintro (e | e | e); exact hmq e; exact hmp e; have := (h4 _ e).1; omega)), row_keep m2 k5 (fun j e => ⟨(h5 j e).2, by rintro (x | x | x); (subst x; exact hq e); (have := (h5 j e).1; omega); exact (h4 j x).2.2 e⟩)⟩
end Go.Proofs.YtpgllcdcpdeicaaGreatDoor.Jv
