/- The contract of package pin's Add, that goes well; no other condition. -/
import Derived.Test.YtjjnjankjbiigaaPnD
namespace Go.Proofs.Ytjjnjankjbiigaa.Pn
open Go.RowKit Go.Lib Go.Maps
set_option linter.unusedSimpArgs false
set_option linter.unusedVariables false

def AdQ (B c : Nat) (mb : Option Nat) (m : Int) (l' : List Pin) (w : World) (e : Ending) (w' : World) : Prop := e = .returned (.tuple #[.int .i64 (l'.length : Nat), .int .i64 0]) ∧ ∃ mb', IsPn B c mb' m l' w' ∧ Ch c mb w w' ∧ NewB mb mb' w
theorem wf_len {n : Nat} (h : n ≤ 1000000) : (Lit.int .i64 ((n : Int) + 1)).wf = true := WalkArith.wf_i64 (by omega)
theorem eq_nn (w : World) : (binOp BinOp.eql 46 (.map none) (.map none)).run Try.prog w = .ok (.bool true) w := by kernel_rfl
theorem eq_sn (b : Nat) (w : World) : (binOp BinOp.eql 46 (.map (some b)) (.map none)).run Try.prog w = .ok (.bool false) w := by kernel_rfl
/-- what lies behind the last steps of Add: one more was given, its entry stored -/
theorem add_tail {B b c : Nat} {m : Int} {l : List Pin} {V : World} (hB : B ≤ b) (hob : V.heap[c]? = some (obP m (l.length : Nat) (some b))) (hne : b ≠ c) (hS : SetP b l V) (r u : Int) (hl : l.length ≤ 1000000) :
    ∃ W2 W3, W2 = V.setCell ⟨c, 1, none⟩ (.int .i64 ((l.length : Int) + 1)) ∧ W2.heap[c]? = some (obP m ((l.length : Int) + 1) (some b)) ∧
      (Instr.mapUpdate 46 (.map (some b)) (.int .i64 ((l.length : Int) + 1)) (.agg #[.int .i64 r, .int .i64 u])).run Try.prog W2.drew = .ok () W3 ∧
      W3.heap[c]? = some (obP m ((l.length : Int) + 1) (some b)) ∧ IsPn B c (some b) m (l ++ [(r, u, true)]) W3 ∧ Ch c (some b) V W3 := by
  obtain ⟨W2, hW2⟩ : ∃ W2, W2 = V.setCell ⟨c, 1, none⟩ (.int .i64 ((l.length : Int) + 1)) := ⟨_, rfl⟩
  have hk2 : W2.heap[c]? = some (obP m ((l.length : Int) + 1) (some b)) := by rw [hW2]; simpa using blk_set hob 1 (.int .i64 ((l.length : Int) + 1))
  have hb2 : W2.heap[b]? = V.heap[b]? := by rw [hW2]; exact set_oth _ _ _ _ hne
  have hS2 : SetP b l W2.drew := hS.keep hb2
  have hcl := cnt_le l
  obtain ⟨W3, hr, hS3, hg3⟩ := hS2.store (l' := l ++ [(r, u, true)]) (i := (l.length : Int) + 1) (r := r) (u := u) (wf_len hl) (by unfold maxLen; omega) (att_snoc l r u)
  have hc2 : c < W2.heap.size := (Array.getElem?_eq_some_iff.1 hk2).1
  have hk3 : W3.heap[c]? = some (obP m ((l.length : Int) + 1) (some b)) := (hg3.block c hc2 (fun e => hne (by injection e with e; exact e.symm))).trans hk2
  refine ⟨W2, W3, hW2, hk2, hr, hk3, ⟨?_, fun e => hne (by injection e), .inr ⟨b, rfl, hB, hS3⟩⟩, ?_⟩
  · rw [hk3]; simp
  · refine Ch.trans (gb' := some b) (b := W2.drew) ?_ (.inl rfl) (Ch.grown hg3)
    rw [hW2]
    exact (Ch.set V 1 _).chain (bdr _)
set_option maxRecDepth 100000 in
set_option maxHeartbeats 2000000 in
theorem Add_ok {B c : Nat} {mb : Option Nat} {m : Int} {l : List Pin} {w : World} (h : IsPn B c mb m l w) (hB : B ≤ w.heap.size) {r : Int} (u : Int) (hr : 0 ≤ r) (hl : l.length ≤ 1000000) (hf : (cnt l : Int) < max m 1) : Calls Try.prog 16 #[.pointer (some ⟨c, 0, none⟩), .int .i64 r, .int .i64 u] w (AdQ B c mb m (l ++ [(r, u, true)]) w) := by
  obtain ⟨c0, c1, c2⟩ := cells3 h.ob
  have hr0 : ¬ r < 0 := by omega
  have hl1 : (Builtin.len_ #[46] 3 #[.map mb]).run Try.prog w.drew = .ok (.int .i64 (cnt l)) w.drew := (h.go (bdr w)).len _
  have hmm := @run_makeMap Try.prog
  have henn := eq_nn
  have hesn := eq_sn
  rcases h.mp with ⟨rfl, rfl⟩ | ⟨b, rfl, hBb, hS⟩
  · have hcl := h.lt
    obtain ⟨W0, hW0⟩ : ∃ W0, W0 = w.drew := ⟨_, rfl⟩
    have hob0 : W0.heap[c]? = some (obP m 0 none) := by rw [hW0]; exact h.ob
    have hs0 : W0.heap.size = w.heap.size := by rw [hW0]; rfl
    obtain ⟨WA, hWA⟩ : ∃ WA, WA = W0.alloc (.map #[] 0) := ⟨_, rfl⟩
    have hobA : WA.heap[c]? = some (obP m 0 none) := by rw [hWA]; exact (((Below.refl _ W0).alloc (Nat.le_refl _) _).block c (by omega)).trans hob0
    obtain ⟨WV, hWV⟩ : ∃ WV, WV = WA.setCell ⟨c, 2, none⟩ (.map (some W0.heap.size)) := ⟨_, rfl⟩
    have hobV : WV.heap[c]? = some (obP m (([] : List Pin).length : Nat) (some W0.heap.size)) := by rw [hWV]; simpa using blk_set hobA 2 (.map (some W0.heap.size))
    have hSV : SetP W0.heap.size [] WV := by
      rw [hWV]
      refine SetP.keep (w := WA) ?_ (set_oth _ _ _ _ (by omega))
      rw [hWA]; exact SetP.made W0
    obtain ⟨W2, W3, hW2, hk2, hst, hk3, HI, HC⟩ := add_tail (B := B) (by omega) hobV (by omega) hSV r u hl
    have HQ : Hid (AdQ B c none m ([] ++ [(r, u, true)]) w (.returned (.tuple #[.int .i64 1, .int .i64 0])) W3) := by
      refine ⟨rfl, _, HI, ?_, .inr (.inr ⟨_, rfl, by omega⟩)⟩
      refine Ch.trans (gb' := some W0.heap.size) (b := WV) ?_ (.inr (.inr ⟨_, rfl, by omega⟩)) HC
      have e0 : Below w.heap.size w WA := by
        rw [hWA, hW0]; exact ((Below.refl _ _).drew).alloc (Nat.le_refl _) _
      rw [hWV]
      exact (Ch.of e0).tr (Ch.set _ _ _)
    obtain ⟨a0, a1, a2⟩ := cells3 hobA
    obtain ⟨g0, g1, g2⟩ := cells3 hob0
    have fA := frzB hobA 2
    rw [hWA] at a0 a1 a2 fA
    obtain ⟨v0, v1, v2⟩ := cells3 hobV
    have fV := frzB hobV 1
    obtain ⟨k0, k1, k2⟩ := cells3 hk2
    obtain ⟨q0, q1, q2⟩ := cells3 hk3
    have z1 : ((([] : List Pin).length : Nat) : Int) = 0 := rfl
    rw [z1] at v1 k1 q1 hst hW2
    rw [show (0 : Int) + 1 = 1 from rfl] at k1 q1 hst hW2
    have HW0 := Lib.hid hW0
    have HWA := Lib.hid hWA
    have HWV := Lib.hid hWV
    have HW2 := Lib.hid hW2
    have hcn : c ≠ W0.heap.size := by omega
    clear h hob0 hobA hobV hSV hk2 hk3 HI HC hW0 hWA hWV hW2 hs0 hl hf
    rw [show cnt [] = 0 from rfl] at hl1
    by_cases hm1 : m < 1
    · go_enter Try.func16, Try.ntmps16
      go_upto_region 5 with (fail)
      go_region
      all_goals
        rw [← HW0.out]
        go_upto_region 8 with (fail)
        go_upto_region 9 with (fail)
        rw [← HWA.out, ← HWV.out]
        clear a0 a1 a2 fA c0 c1 c2 g0 g1 g2 hl1 hmm
        go_upto_region 10 with (fail)
        rw [← HW2.out]
        clear v0 v1 v2 fV
        go_region
        all_goals
          go_wp2
          exact bodyPost_ret (v := .tuple #[.int .i64 1, .int .i64 0]) (by simp [results, Try.results16, go_sem]) rfl HQ.out

    · go_enter Try.func16, Try.ntmps16
      go_upto_region 5 with (fail)
      go_region
      all_goals
        rw [← HW0.out]
        go_upto_region 8 with (fail)
        go_upto_region 9 with (fail)
        rw [← HWA.out, ← HWV.out]
        clear a0 a1 a2 fA c0 c1 c2 g0 g1 g2 hl1 hmm
        go_upto_region 10 with (fail)
        rw [← HW2.out]
        clear v0 v1 v2 fV
        go_region
        all_goals
          go_wp2
          exact bodyPost_ret (v := .tuple #[.int .i64 1, .int .i64 0]) (by simp [results, Try.results16, go_sem]) rfl HQ.out

  · have hcl := h.lt
    obtain ⟨W0, hW0⟩ : ∃ W0, W0 = w.drew := ⟨_, rfl⟩
    have hob0 : W0.heap[c]? = some (obP m (l.length : Nat) (some b)) := by rw [hW0]; exact h.ob
    have hs0 : W0.heap.size = w.heap.size := by rw [hW0]; rfl
    have hS0 : SetP b l W0 := by rw [hW0]; exact hS
    have hbc : b ≠ c := fun e => h.ne (by rw [e])
    obtain ⟨W2, W3, hW2, hk2, hst, hk3, HI, HC⟩ := add_tail (B := B) hBb hob0 hbc hS0 r u hl
    have HQ : Hid (AdQ B c (some b) m (l ++ [(r, u, true)]) w (.returned (.tuple #[.int .i64 ((l.length : Int) + 1), .int .i64 0])) W3) := by
      refine ⟨by simp, _, HI, ?_, .inl rfl⟩
      refine Ch.tr (b := W0) ?_ HC
      rw [hW0]; exact Ch.of (bdr _)
    obtain ⟨v0, v1, v2⟩ := cells3 hob0
    have fV := frzB hob0 1
    obtain ⟨k0, k1, k2⟩ := cells3 hk2
    obtain ⟨q0, q1, q2⟩ := cells3 hk3
    have HW0 := Lib.hid hW0
    have HW2 := Lib.hid hW2
    clear h hob0 hS0 hS hk2 hk3 HI HC hW0 hW2 hs0
    have hf2 : (cnt l : Int) < max m 1 := hf
    clear hf
    generalize l ++ [(r, u, true)] = l' at *
    generalize cnt l = k at *
    generalize l.length = n at *
    by_cases hm1 : m < 1
    · have hf1 : (k : Int) < 1 := by omega
      clear hf2
      go_enter Try.func16, Try.ntmps16
      go_upto_region 5 with (fail)
      go_region
      all_goals
        rw [← HW0.out]
        clear c0 c1 c2 hl1 hmm
        go_upto_region 10 with (fail)
        rw [← HW2.out]
        clear v0 v1 v2 fV
        go_region
        all_goals
          go_wp2
          exact bodyPost_ret (v := .tuple #[.int .i64 ((n : Int) + 1), .int .i64 0]) (by simp [results, Try.results16, go_sem]) rfl HQ.out

    · have hf1 : (k : Int) < m := by omega
      clear hf2
      go_enter Try.func16, Try.ntmps16
      go_upto_region 5 with (fail)
      go_region
      all_goals
        rw [← HW0.out]
        clear c0 c1 c2 hl1 hmm
        go_upto_region 10 with (fail)
        rw [← HW2.out]
        clear v0 v1 v2 fV
        go_region
        all_goals
          go_wp2
          exact bodyPost_ret (v := .tuple #[.int .i64 ((n : Int) + 1), .int .i64 0]) (by simp [results, Try.results16, go_sem]) rfl HQ.out

end Go.Proofs.Ytjjnjankjbiigaa.Pn
