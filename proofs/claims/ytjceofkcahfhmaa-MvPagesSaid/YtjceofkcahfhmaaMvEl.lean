/- The law's step, whatever the call; Range of both; the little calls; no other condition. -/
import Derived.Test.YtjceofkcahfhmaaMvEj
namespace Go.Proofs.Ytjceofkcahfhmaa.Mv
open Go.RowKit Go.Lib Go.Maps Go.Shelf Go.Sort
open Go.Proofs.Ytjceofkcahfhmaa.Cn
set_option linter.unusedSimpArgs false
set_option linter.unusedVariables false

theorem step_c {Z : Nat → Prop} {c r n : Nat} {l0 l9 : Int} {X : Sx} {w : World} (hj : Jn Z c r l0 l9 n X w) (hn : n ≤ 39) (hZ : ∀ k, Z k → k < w.heap.size) (k : Int) (v : Value) (cs : List ChT) (rv : Int) (ky pf : ByteArray) (nn : Int) (ho : OpOk w (k, v, cs, rv, ky, pf, nn)) :
    Calls Try.prog 8 #[.pointer (some ⟨c, 0, none⟩), .pointer (some ⟨r, 0, none⟩), .agg #[.int .i64 k, v, .int .i64 rv, .string ky, .string pf, .int .i64 nn]] w fun e w' => e = .returned (.bool true) ∧ Aft Z c r l0 l9 n X w w' := by
  obtain ⟨hx, h1, h2, h3⟩ := ho
  dsimp only at hx h1 h2 h3
  obtain ⟨ao, cap, rfl, _⟩ := id hx
  by_cases k012 : k = 0 ∨ k = 1 ∨ k = 2
  · exact step_012 hj hn hZ k k012 ao cap cs hx h1 h2 rv nn ky pf
  by_cases k3 : k = 3
  · subst k3; exact step_3 hj hn hZ ao cs.length cap rv nn ky pf
  by_cases k4 : k = 4
  · subst k4; exact step_4 hj hn hZ ao cs.length cap rv nn ky pf
  by_cases k5 : k = 5
  · subst k5; exact step_5 hj hn hZ ao cs.length cap rv nn ky pf h3
  by_cases k6 : k = 6
  · subst k6; exact step_6 hj hn hZ ao cs.length cap rv nn ky pf
  · exact step_x hj hZ k ⟨by omega, by omega, by omega, k3, k4, k5, k6⟩ ao cs.length cap rv nn ky pf
theorem Jn.weak {Z Z' : Nat → Prop} {c r n : Nat} {l0 l9 : Int} {X : Sx} {w : World} (h : Jn Z c r l0 l9 n X w) (hz : ∀ k, Z' k → Z k) : Jn Z' c r l0 l9 n X w := by
  obtain ⟨hp, N, mb, od, F, G, hN, hJ⟩ := h
  exact ⟨hp, N, mb, od, F, G, hN, ⟨hJ.is, hJ.ok, hJ.rf, hJ.fb, hJ.gs, fun k hk z => hJ.lo k hk (hz k z)⟩⟩
theorem range_j {Z : Nat → Prop} {c r n : Nat} {l0 l9 : Int} {X : Sx} {w : World} (hj : Jn Z c r l0 l9 n X w) (hn : n ≤ 40) (hZ : ∀ k, Z k → k < w.heap.size) (p a : ByteArray) (m q : Int) :
    Calls Try.prog 15 #[.pointer (some ⟨c, 0, none⟩), .string p, .string a, .int .i64 m, .int .i64 q] w fun e w' => ∃ v M, e = .returned (.tuple #[v, .bool (rgW X.A X.fl p a m q).2.1, .int .i64 (rgW X.A X.fl p a m q).2.2]) ∧ w.heap.size ≤ M ∧ OwI M v (rgW X.A X.fl p a m q).1 w' ∧ Jn (fun k => Z k ∨ v.ownBlock = some k) c r l0 l9 n X w' ∧ Fr (fun k => ¬ Z k) w w' := by
  obtain ⟨hp, N, mb, od, F, G, hN, hJ⟩ := hj
  have hK2 := hp.b2
  have hG := Range_c hJ.is (by omega) hp.dm (by omega) (fun k hk => (hp.kn k hk).2) hJ.ok p a m q
  unfold RgQ at hG
  rw [range_eq hp.hA hp.tl hp.h0 hp.dm (fun k hk => (hp.kn k hk).1) p a m q] at hG
  refine hG.mono ?_
  rintro e w' ⟨v, od', M, rfl, hM, hoM, ho, i1, o1, f1, oo⟩
  have rf1 := hJ.rf.kept f1 (fun k hk e => (hJ.gs k hk).2 (.inl (.inl e)))
  obtain ⟨j1, j2⟩ := hJ.join X i1 o1 (f1.mono (fun k e => .inl (.inl e))) (fun k hk => .inl hk) oo (rf1.wide (fun k hk => .inl hk)) (Fr.refl G w') hZ
  refine ⟨v, M, rfl, hM, ho, ⟨hp, N, mb, od', _, _, hN, ⟨j1.is, j1.ok, j1.rf, j1.fb, j1.gs, fun k hk z => ?_⟩⟩, j2⟩
  rcases z with z | z
  · exact j1.lo k hk z
  · have hkM := (ho.lt k z).1
    rcases hk with (hk | ⟨n, cap, e⟩) | ⟨hk | hk, hk2⟩
    · have := hJ.is.own hk; omega
    · have := hoM k n cap e; omega
    · have := (hJ.gs k hk).1; omega
    · omega
theorem fr_below {Z : Nat → Prop} {B : Nat} {a b : World} (h : Fr (fun k => ¬ Z k) a b) (hZ : ∀ k, k < B → Z k) (hB : B ≤ a.heap.size) : Below B a b :=
  ⟨h.os, h.tape, h.output, h.size, fun k hk => h.block k (by omega) (fun hn => hn (hZ k hk))⟩
theorem Jn.cell {Z : Nat → Prop} {c r n : Nat} {l0 l9 : Int} {X : Sx} {w : World} (h : Jn Z c r l0 l9 n X w) : ∃ mb od, w.heap[c]? = some (obN l0 l9 X.rev X.fl (.map mb) X.ks X.vs od) := by
  obtain ⟨hp, N, mb, od, F, G, hN, hJ⟩ := h
  exact ⟨mb, od, hJ.is.hs⟩
theorem Floor_c (c : Nat) (l0 l9 rev fl ks vs : Int) (mp od : Value) (w : World) (h : w.heap[c]? = some (obN l0 l9 rev fl mp ks vs od)) : Calls Try.prog 11 #[.pointer (some ⟨c, 0, none⟩)] w fun e w' => e = .returned (.int .i64 fl) ∧ w' = w := by
  obtain ⟨c0, c1, c2, c3, c4, c5, c6, c7⟩ := cells8 h
  clear h
  go_enter Try.func11, Try.ntmps11
  go_wp2
  go_ret
  exact ⟨rfl, rfl⟩
theorem Rev_c (c : Nat) (l0 l9 rev fl ks vs : Int) (mp od : Value) (w : World) (h : w.heap[c]? = some (obN l0 l9 rev fl mp ks vs od)) : Calls Try.prog 9 #[.pointer (some ⟨c, 0, none⟩)] w fun e w' => e = .returned (.int .i64 rev) ∧ w' = w := by
  obtain ⟨c0, c1, c2, c3, c4, c5, c6, c7⟩ := cells8 h
  clear h
  go_enter Try.func9, Try.ntmps9
  go_wp2
  go_ret
  exact ⟨rfl, rfl⟩
theorem Keys_c (c : Nat) (l0 l9 rev fl ks vs : Int) (mp od : Value) (w : World) (h : w.heap[c]? = some (obN l0 l9 rev fl mp ks vs od)) : Calls Try.prog 14 #[.pointer (some ⟨c, 0, none⟩)] w fun e w' => e = .returned (.int .i64 ks) ∧ w' = w := by
  obtain ⟨c0, c1, c2, c3, c4, c5, c6, c7⟩ := cells8 h
  clear h
  go_enter Try.func14, Try.ntmps14
  go_wp2
  go_ret
  exact ⟨rfl, rfl⟩
theorem Versions_c (c : Nat) (l0 l9 rev fl ks vs : Int) (mp od : Value) (w : World) (h : w.heap[c]? = some (obN l0 l9 rev fl mp ks vs od)) : Calls Try.prog 12 #[.pointer (some ⟨c, 0, none⟩)] w fun e w' => e = .returned (.int .i64 vs) ∧ w' = w := by
  obtain ⟨c0, c1, c2, c3, c4, c5, c6, c7⟩ := cells8 h
  clear h
  go_enter Try.func12, Try.ntmps12
  go_wp2
  go_ret
  exact ⟨rfl, rfl⟩
/-- what was told stays so -/
theorem keeps_eq {n m : Nat} {X Y : Sx} (hX : Pln n X) (hY : Pln m Y) (hg : Grw X Y) (p a : ByteArray) (k q : Int) (h : (rgW X.A X.fl p a k q).2.2 = 0) : (q < Y.fl ∧ (rgW Y.A Y.fl p a k q).2.2 = 9) ∨ (¬ q < Y.fl ∧ rgW Y.A Y.fl p a k q = rgW X.A X.fl p a k q) := by
  obtain ⟨h1, t, h2⟩ := hg
  have hl := hX.len
  have hl2 := hY.len
  have hlA : Y.A.length = X.A.length + t.length := by rw [h2, List.length_append]
  have h0 := hX.h0
  have r0 : refE (revA X.A) X.fl q = 0 := by
    unfold rgW at h
    by_cases hr : refE (revA X.A) X.fl q = 0
    · exact hr
    · rw [if_pos hr] at h; exact h
  have hq : 0 ≤ q ∧ q ≤ X.rev ∧ X.fl ≤ q := by
    unfold refE at r0
    rw [hX.hA] at r0
    split at r0
    · cases r0
    · split at r0
      · cases r0
      · omega
  by_cases hf : q < Y.fl
  · left
    refine ⟨hf, ?_⟩
    have r9 : refE (revA Y.A) Y.fl q = 9 := by
      unfold refE
      rw [hY.hA, if_neg (by omega), if_pos hf]
    unfold rgW
    rw [r9, if_pos (by decide)]
  · right
    refine ⟨hf, ?_⟩
    have r9 : refE (revA Y.A) Y.fl q = 0 := by
      unfold refE
      rw [hY.hA, if_neg (by omega), if_neg hf]
    have hge : Y.A.getD q.toNat [] = X.A.getD q.toNat [] := by
      rw [h2, List.getD_eq_getElem?_getD, List.getElem?_append_left (by omega), ← List.getD_eq_getElem?_getD]
    unfold rgW
    rw [r9, r0, hge]
end Go.Proofs.Ytjceofkcahfhmaa.Mv
