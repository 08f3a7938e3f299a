/- The document's outbox as it lies; its New, Floor, Since; no other condition. -/
import Derived.Test.YtneogelhdikcaaaNtN
namespace Go.Proofs.Ytneogelhdikcaaa.Nt
open Go.RowKit Go.Lib Go.Maps
set_option linter.unusedSimpArgs false
set_option linter.unusedVariables false

structure IsRb (B d : Nat) (ga nb : Option Nat) (M : Int) (now : List Tx) (all : List Ent) (W : World) : Prop where
  ex : ∃ vA vN, W.heap[d]? = some (.cells #[vA, .int .i64 M, vN] 36 (0, 0)) ∧ OwL B vA all W ∧ vA.ownBlock = ga ∧ OwT B vN now W ∧ vN.ownBlock = nb
  ne : ga ≠ some d
  nne : nb ≠ some d
  ap : ∀ g, nb = some g → ga ≠ some g
theorem IsRb.lt {B d : Nat} {ga nb : Option Nat} {M : Int} {now : List Tx} {all : List Ent} {W : World} (h : IsRb B d ga nb M now all W) : d < W.heap.size := by
  obtain ⟨v, u, hv, _⟩ := h.ex
  exact (Array.getElem?_eq_some_iff.1 hv).1
theorem IsRb.row {B d : Nat} {ga nb : Option Nat} {M : Int} {now : List Tx} {all : List Ent} {W : World} (h : IsRb B d ga nb M now all W) : ∀ g, ga = some g → B ≤ g ∧ g < W.heap.size := by
  obtain ⟨v, u, hv, ho, e, _⟩ := h.ex
  intro g hg
  exact ho.lt g (e.trans hg)
theorem IsRb.row2 {B d : Nat} {ga nb : Option Nat} {M : Int} {now : List Tx} {all : List Ent} {W : World} (h : IsRb B d ga nb M now all W) : ∀ g, nb = some g → B ≤ g ∧ g < W.heap.size := by
  obtain ⟨v, u, hv, _, _, ho, e⟩ := h.ex
  intro g hg
  exact ho.lt g (e.trans hg)
theorem IsRb.kept {B d : Nat} {ga nb : Option Nat} {M : Int} {now : List Tx} {all : List Ent} {w W : World} (h : IsRb B d ga nb M now all w) (hs : w.heap.size ≤ W.heap.size) (hd : W.heap[d]? = w.heap[d]?) (ha : ∀ g, ga = some g → W.heap[g]? = w.heap[g]?) (hn : ∀ g, nb = some g → W.heap[g]? = w.heap[g]?) : IsRb B d ga nb M now all W := by
  obtain ⟨v, u, hv, ho, e, ho2, e2⟩ := h.ex
  exact ⟨⟨v, u, hd.trans hv, ho.kept hs (fun g hg => ha g (e.symm.trans hg)), e, ho2.kept hs (fun g hg => hn g (e2.symm.trans hg)), e2⟩, h.ne, h.nne, h.ap⟩
theorem IsRb.go {B d : Nat} {ga nb : Option Nat} {M : Int} {now : List Tx} {all : List Ent} {w W : World} (h : IsRb B d ga nb M now all w) (hb : Below w.heap.size w W) : IsRb B d ga nb M now all W :=
  h.kept hb.size (hb.block _ h.lt) (fun g hg => hb.block _ (h.row g hg).2) (fun g hg => hb.block _ (h.row2 g hg).2)
set_option maxRecDepth 100000 in
set_option maxHeartbeats 1000000 in
theorem New_r (m : Int) (w : World) : Calls Try.prog 7 #[.int .i64 m] w fun e w' => e = .returned (.pointer (some ⟨w.heap.size, 0, none⟩)) ∧ IsRb w.heap.size w.heap.size none none (max m 1) [] [] w' ∧ Below w.heap.size w w' := by
  obtain ⟨W, hW, hk, hb⟩ := new3 w (.slice none 0 0) (.int .i64 (max m 1)) (.slice none 0 0) 36
  have HQ : Hid (IsRb w.heap.size w.heap.size none none (max m 1) [] [] W) := ⟨⟨_, _, hk, OwG.nil _ _ _, rfl, OwG.nil _ _ _, rfl⟩, by simp, by simp, fun g h => by cases h⟩
  have HW := Lib.hid hW
  have HB := Lib.hid hb
  clear hW hk hb
  by_cases hm : m < 1
  · have e : max m 1 = 1 := by omega
    rw [e] at HW
    clear e
    go_enter Try.func7, Try.ntmps7
    go_wp2
    rw [← HW.out]
    go_ret
    exact ⟨rfl, HQ.out, HB.out⟩
  · have e : max m 1 = m := by omega
    rw [e] at HW
    clear e
    go_enter Try.func7, Try.ntmps7
    go_wp2
    rw [← HW.out]
    go_ret
    exact ⟨rfl, HQ.out, HB.out⟩
set_option maxRecDepth 100000 in
set_option maxHeartbeats 1000000 in
theorem Floor_r {B d : Nat} {ga nb : Option Nat} {M : Int} {now : List Tx} {all : List Ent} {w : World} (h : IsRb B d ga nb M now all w) (hM : 1 ≤ M) (ha : all.length ≤ 1000000) : Calls Try.prog 14 #[.pointer (some ⟨d, 0, none⟩)] w fun e w' => e = .returned (.int .i64 ((all.length - M.toNat : Nat) : Int)) ∧ ∃ n, w' = w.drewN n := by
  obtain ⟨v, u, hv, ho, _⟩ := h.ex
  obtain ⟨ao, cap, rfl, _, _⟩ := ho.form
  obtain ⟨c0, c1, c2⟩ := cells3 hv
  have c0' : w.drew.cell? ⟨d, 0, none⟩ = some (.slice ao all.length cap) := c0
  have c1' : w.drew.cell? ⟨d, 1, none⟩ = some (.int .i64 M) := c1
  by_cases hm : M < (all.length : Int)
  · have HE : Hid ((all.length : Int) - M = ((all.length - M.toNat : Nat) : Int)) := by show _ = _; omega
    have hl : (all.length : Int) ≤ 1000000 := by omega
    clear h hv ho ha
    generalize ((all.length - M.toNat : Nat) : Int) = r at HE ⊢
    generalize all.length = n at *
    go_enter Try.func14, Try.ntmps14
    go_upto_region 1 with (fail)
    go_region
    all_goals
      go_upto_region 2 with (fail)
      go_region
      all_goals
        go_wp2
        go_ret
        exact ⟨by rw [← HE.out]; rfl, 2, rfl⟩
  · have HE : Hid (0 = ((all.length - M.toNat : Nat) : Int)) := by show _ = _; omega
    have hl : (all.length : Int) ≤ 1000000 := by omega
    clear h hv ho ha
    generalize ((all.length - M.toNat : Nat) : Int) = r at HE ⊢
    generalize all.length = n at *
    go_enter Try.func14, Try.ntmps14
    go_upto_region 1 with (fail)
    go_region
    all_goals
      go_wp2
      go_ret
      exact ⟨by rw [← HE.out]; rfl, 1, rfl⟩
end Go.Proofs.Ytneogelhdikcaaa.Nt
