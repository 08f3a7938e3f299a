/- The contract of package clog's forget: at every log of the call's own that has an entry; no other condition. -/
import Derived.Test.YtcmcbocegdejjaaClC
namespace Go.Proofs.Ytcmcbocegdejjaa.Cl
open Go.RowKit Go.Lib Go.Shelf Go.Sort
set_option linter.unusedSimpArgs false
set_option linter.unusedVariables false

theorem cnt_pos {l : List Ent} {x : Ent} {t : List Ent} (e : l = x :: t) : 1 ≤ cnt l x.1 := by
  subst e
  unfold cnt
  rw [List.countP_cons_of_pos (by simp)]
  omega
theorem Ch.chain {c : Nat} {gb : Option Nat} {w W1 W2 : World} (h : Ch c gb w W1) (k : Below W1.heap.size W1 W2) : Ch c gb w W2 := h.tr (Ch.of k)
def FgQ (B c : Nat) (gb : Option Nat) (m : Int) (l : List Ent) (fl la : Int) (w : World) (e : Ending) (w' : World) : Prop := e = .returned (.tuple #[]) ∧ ∃ gb', IsLg B c gb' m l fl la w' ∧ Ch c gb w w' ∧ NewB gb gb' w
set_option maxRecDepth 100000 in
set_option maxHeartbeats 4000000 in
theorem forget_c {B c : Nat} {gb : Option Nat} {m : Int} {l : List Ent} {fl la : Int} {w : World} (h : IsLg B c gb m l fl la w) (hs : Srt l) (hm : l.length ≤ 1000000) (x : Ent) (t : List Ent) (hx : l = x :: t) :
    Calls Try.prog 26 #[.pointer (some ⟨c, 0, none⟩)] w (FgQ B c gb m (abv l x.1) x.1 la w) := by
  have hlp : 0 < l.length := by rw [hx]; simp
  have hr1 := cnt_pos hx
  have hrl := cnt_le l x.1
  have hlx : l[0].1 = x.1 := by simp [hx]
  have hdc := drop_cnt x.1 hs
  obtain ⟨v, hv, ho, hgb⟩ := h.ex
  have hne := h.ne
  rcases ho with ⟨_, e⟩ | ⟨g, o, cap, rfl, h1, h2, h3, h4, h5, h6⟩
  · rw [e] at hlp; cases hlp
  have ho : OwL B (.slice (some ⟨g, o, none⟩) l.length cap) l w := .inr ⟨g, o, cap, rfl, h1, h2, h3, h4, h5, h6⟩
  have hgc : g ≠ c := fun e => hne (by rw [← hgb, ← e]; rfl)
  have hgb' : gb = some g := hgb.symm
  subst hgb'
  obtain ⟨d0, _, _, _⟩ := cell4 h5 hlp
  rw [hlx] at d0
  simp only [Nat.zero_mul, Nat.add_zero] at d0
  obtain ⟨fx, hfx⟩ : ∃ fx, fx = x.1 := ⟨_, rfl⟩
  rw [← hfx] at d0 hr1 hrl hdc ⊢
  obtain ⟨c0, c1, c2, c3⟩ := cells4 hv
  have f2 := frzB hv 2
  obtain ⟨W1, hW1⟩ : ∃ W1, W1 = w.setCell ⟨c, 2, none⟩ (.int .i64 fx) := ⟨_, rfl⟩
  have hk1 : W1.heap[c]? = some (.cells #[.int .i64 m, .slice (some ⟨g, o, none⟩) l.length cap, .int .i64 fx, .int .i64 la] 62 (0, 0)) := by rw [hW1]; simpa using blk_set hv 2 (.int .i64 fx)
  have hs1 : W1.heap.size = w.heap.size := by rw [hW1]; simp [World.setCell]
  have hg1 : W1.heap[g]? = w.heap[g]? := by rw [hW1]; exact set_oth _ _ _ _ hgc
  have L1 : IsLg B c (some g) m l fx la W1 := ⟨⟨_, hk1, ho.kept (Nat.le_of_eq hs1.symm) (fun q hq => by injection hq with hq; have : g = q := hq; rw [← this]; exact hg1), rfl⟩, hne⟩
  have C1 : Ch c (some g) w W1 := by rw [hW1]; exact Ch.set _ _ _
  have HU := Lib.hid (upTo_c L1 fx hs hm)
  obtain ⟨k1, _, k2, _⟩ := cells4 hk1
  have HL1 := Lib.hid L1
  have HK1 := Lib.hid hk1
  have HC1 := Lib.hid C1
  have HW1 := Lib.hid hW1
  have HDC := Lib.hid hdc
  have hl1 : (1 : Int) ≤ (l.length : Int) := by omega
  have hl0 : (0 : Int) < (l.length : Int) := by omega
  have HNE := Lib.hid hne
  unfold maxLen at h4
  clear h hs hx hlx hfx hv ho h1 h2 h5 h6 hgb hk1 hs1 hg1 L1 C1 hW1 hdc hne k1
  revert HU HDC hr1 hrl
  generalize cnt l fx = r
  generalize abv l fx = l2
  intro hrl hr1 HU HDC
  go_enter Try.func26, Try.ntmps26
  go_wp2_with fail
  rw [← HW1.out]
  refine HU.out.mono ?_
  rintro e w2 ⟨rfl, hb2⟩
  have L2 := HL1.out.go hb2
  have hk2 := (hb2.block _ HL1.out.lt).trans HK1.out
  obtain ⟨v2, hv2, ho2, hgb2⟩ := L2.ex
  have e2 : v2 = .slice (some ⟨g, o, none⟩) l.length cap := by
    rw [hk2] at hv2
    injection hv2 with hv2
    injection hv2 with hv2
    simpa using hv2.symm
  subst e2
  have hth : w2.there g o (r * 4) := by
    rcases ho2 with ⟨e, _⟩ | ⟨g', o', cap', e, _, _, _, _, _, q6⟩
    · cases e
    · injection e with a1 a2 a3
      injection a1 with a1
      injection a1 with a1 a4
      subst a1 a3 a4
      exact fun j hj => q6 j (by omega)
  have hcl := fun ty c2 => run_clear w2 ty g o r c2 (by omega) hth
  obtain ⟨W3, hW3⟩ : ∃ W3, W3 = w2.setCells g o (zE r) := ⟨_, rfl⟩
  rw [← hW3] at hcl
  have hO3 := ho2.dropped (k := r) (zE r) (zE_len r) hrl
  rw [HDC.out, ← hW3] at hO3
  have hk3 : W3.heap[c]? = some (.cells #[.int .i64 m, .slice (some ⟨g, o, none⟩) l.length cap, .int .i64 fx, .int .i64 la] 62 (0, 0)) := by
    rw [hW3, World.heap_setCells_other _ _ _ _ L2.lt (fun e => hgc e.symm)]; exact hk2
  have C3 : Ch c (some g) w W3 := (HC1.out.chain hb2).tr (by rw [hW3]; exact Ch.sets _ _ _)
  have hll : l.length - r = l2.length := by rw [← HDC.out, List.length_drop]
  obtain ⟨j0, j1, j2, j3⟩ := cells4 hk2
  obtain ⟨q0, q1, q2, q3⟩ := cells4 hk3
  have f3 := frzB hk3 1
  have HO3 := Lib.hid hO3
  have HK3 := Lib.hid hk3
  have HC3 := Lib.hid C3
  have HLL := Lib.hid hll
  have i0 : (0 : Int) ≤ (r : Int) := by omega
  have i1 : (r : Int) ≤ (cap : Int) := by omega
  have i2 : (r : Int) ≤ (l.length : Int) := by omega
  have i3 : ¬ r = 0 := by omega
  clear hW3 hb2 L2 hk2 hv2 ho2 hgb2 hth hO3 hk3 C3 hll j0 j3 q0 q3
  have fin : ∀ (W : World) (v : Value), W.heap[c]? = some (.cells #[.int .i64 m, v, .int .i64 fx, .int .i64 la] 62 (0, 0)) → Ch c (some g) w W → OwL B v l2 W → (v.ownBlock = some g ∨ v.ownBlock = none) → FgQ B c (some g) m l2 fx la w (.returned (.tuple #[])) W := fun W v h1 h2 h3 h4 => by
    rcases h4 with h4 | h4
    · exact ⟨rfl, some g, ⟨⟨v, h1, h3, h4⟩, HNE.out⟩, h2, .inl rfl⟩
    · exact ⟨rfl, none, ⟨⟨v, h1, h3, h4⟩, by simp⟩, h2, .inr (.inl rfl)⟩
  have FIN := Lib.hid fin
  clear fin
  by_cases hrr : r = l.length
  · have hl2 : l2 = [] := List.eq_nil_of_length_eq_zero (by have := HLL.out; omega)
    have z0 : l.length - r = 0 := by omega
    by_cases hrc : r = cap
    · have ecap : cap = l.length := by omega
      subst hrr
      subst ecap
      have FE : Hid (∀ u, FgQ B c (some g) m l2 fx la w (.returned (.tuple #[])) ((W3.setCell ⟨c, 1, none⟩ u).setCell ⟨c, 1, none⟩ (.slice none 0 0))) := fun u => FIN.out _ (.slice none 0 0) (by simpa using blk_set (blk_set HK3.out 1 u) 1 (.slice none 0 0)) ((HC3.out.tr (Ch.set _ _ _)).tr (Ch.set _ _ _)) (by rw [hl2]; exact OwL.nil _ _) (.inr rfl)
      clear hl2
      go_wp2_with fail
      go_end0
      exact FE.out _
    · subst hrr
      have hcz : ¬ (l.length : Int) = (cap : Int) := by omega
      have FE : Hid (∀ u, FgQ B c (some g) m l2 fx la w (.returned (.tuple #[])) ((W3.setCell ⟨c, 1, none⟩ u).setCell ⟨c, 1, none⟩ (.slice none 0 0))) := fun u => FIN.out _ (.slice none 0 0) (by simpa using blk_set (blk_set HK3.out 1 u) 1 (.slice none 0 0)) ((HC3.out.tr (Ch.set _ _ _)).tr (Ch.set _ _ _)) (by rw [hl2]; exact OwL.nil _ _) (.inr rfl)
      clear hl2
      go_wp2_with fail
      go_end0
      exact FE.out _
  · have hcz : ¬ (r : Int) = (cap : Int) := by omega
    have hnz : ¬ ((l.length - r : Nat) : Int) = 0 := by omega
    have hnz2 : ¬ (l.length - r : Nat) = 0 := by omega
    have FE : Hid (FgQ B c (some g) m l2 fx la w (.returned (.tuple #[])) (W3.setCell ⟨c, 1, none⟩ (.slice (some ⟨g, o + r * 4, none⟩) (l.length - r) (cap - r)))) :=
      FIN.out _ _ (by simpa using blk_set HK3.out 1 _) (HC3.out.tr (Ch.set _ _ _)) (HO3.out.kept (by simp [World.setCell]) (fun q hq => by injection hq with hq; have : g = q := hq; rw [← this]; exact set_oth _ _ _ _ hgc)) (.inl rfl)
    go_wp2_with fail
    go_end0
    exact FE.out
end Go.Proofs.Ytcmcbocegdejjaa.Cl
