/- The builtin clear at a row of versions of one's own; package chain's kept, where its row is known; no other condition. -/
import Derived.Test.YthioghbifpphiaaCnH
namespace Go.Proofs.Ythioghbifpphiaa.Cn
open Go.RowKit Go.Lib Go.Shelf Go.Sort
set_option linter.unusedSimpArgs false
set_option linter.unusedVariables false

theorem vC_take (l : List Ver) (k : Nat) (hk : k ≤ l.length) : (vC l).take (k * 3) = vC (l.take k) := by
  have h : vC l = vC (l.take k) ++ vC (l.drop k) := by rw [← vC_app, List.take_append_drop]
  rw [h, List.take_left' (by rw [vC_len, List.length_take]; omega)]
theorem vC_drop (l : List Ver) (k : Nat) (hk : k ≤ l.length) : (vC l).drop (k * 3) = vC (l.drop k) := by
  have h : vC l = vC (l.take k) ++ vC (l.drop k) := by rw [← vC_app, List.take_append_drop]
  rw [h, List.drop_left' (by rw [vC_len, List.length_take]; omega)]
/-- s of them made nothing, from k on -/
def wipe (all : List Ver) (k s : Nat) : List Ver := all.take k ++ List.replicate s zeroV ++ all.drop (k + s)
theorem wipe_len {all : List Ver} {k s : Nat} (h : k + s ≤ all.length) : (wipe all k s).length = all.length := by unfold wipe; simp; omega
theorem wipe_drop {all : List Ver} {k s : Nat} (h : k + s ≤ all.length) : (wipe all k s).drop (k + s) = all.drop (k + s) := by
  unfold wipe
  rw [List.drop_left' (by simp; omega)]
theorem wipe_cells {all : List Ver} {k s : Nat} (h : k + s ≤ all.length) {cur : List Value} (hc : cur.take (all.length * 3) = vC all) :
    (cur.take (k * 3) ++ vC (List.replicate s zeroV) ++ cur.drop (k * 3 + s * 3)).take (all.length * 3) = vC (wipe all k s) := by
  have h1 : cur = vC all ++ cur.drop (all.length * 3) := by rw [← hc, List.take_append_drop]
  have hl : (vC all).length = all.length * 3 := vC_len all
  have h2 : cur.take (k * 3) = vC (all.take k) := by
    rw [h1, List.take_append_of_le_length (by omega), vC_take _ _ (by omega)]
  have h3 : cur.drop (k * 3 + s * 3) = vC (all.drop (k + s)) ++ cur.drop (all.length * 3) := by
    rw [show k * 3 + s * 3 = (k + s) * 3 by omega]
    conv => lhs; rw [h1]
    rw [List.drop_append_of_le_length (by omega), vC_drop _ _ h]
  rw [h2, h3, ← List.append_assoc, ← vC_app, ← vC_app]
  have h4 : (vC (wipe all k s)).length = all.length * 3 := by rw [vC_len, wipe_len h]
  exact List.take_left' h4
set_option maxHeartbeats 1000000 in
theorem run_clear (w : World) (ty : TypeId) (g k s c2 : Nat) (cur : Array Value) (hs : 0 < s) (hg : w.heap[g]? = some (.cells cur 78 (0, 0))) (hle : (k + s) * 3 ≤ cur.size) :
    (Builtin.clear_ #[99] ty #[.slice (some ⟨g, k * 3, none⟩) s c2]).run Try.prog w = .ok (.tuple #[]) (w.setRow g (cur.toList.take (k * 3) ++ vC (List.replicate s zeroV) ++ cur.toList.drop (k * 3 + s * 3)).toArray) := by
  have hz : ∀ w, (zeroValue 78).run Try.prog w = .ok (.agg #[.int .i64 0, .string ⟨#[]⟩, .bool false]) w := Try.zeroValue78
  have hzc : (Builtin.zeroCells (Value.agg #[.int .i64 0, .string ⟨#[]⟩, .bool false]).cells s).toList = vC (List.replicate s zeroV) := by
    have e : (Value.agg #[.int .i64 0, .string ⟨#[]⟩, .bool false]).cells = #[.int .i64 0, .string ⟨#[]⟩, .bool false] := rfl
    rw [e]
    unfold Builtin.zeroCells
    apply List.ext_getElem
    · simp [vC_len]
    · intro j h1 h2
      have hj : j < s * 3 := by simpa using h1
      have hq : j / 3 < (List.replicate s zeroV).length := by rw [List.length_replicate]; omega
      obtain ⟨a0, a1, a2⟩ := vC_at (List.replicate s zeroV) (j / 3) hq
      rw [List.getElem_replicate] at a0 a1 a2
      have hr : (vC (List.replicate s zeroV))[j]? = some (vC (List.replicate s zeroV))[j] := List.getElem?_eq_getElem h2
      have hm : j % 3 = 0 ∨ j % 3 = 1 ∨ j % 3 = 2 := by omega
      rcases hm with h | h | h
      · have ej : j = j / 3 * 3 := by omega
        have hr2 : (vC (List.replicate s zeroV))[j]? = some (.int .i64 0) := by rw [ej]; exact a0
        rw [hr] at hr2
        injection hr2 with hr2
        rw [hr2]; simp [h]
      · have ej : j = j / 3 * 3 + 1 := by omega
        have hr2 : (vC (List.replicate s zeroV))[j]? = some (.string ByteArray.empty) := by rw [ej]; exact a1
        rw [hr] at hr2
        injection hr2 with hr2
        rw [hr2]; simp [h]; rfl
      · have ej : j = j / 3 * 3 + 2 := by omega
        have hr2 : (vC (List.replicate s zeroV))[j]? = some (.bool false) := by rw [ej]; exact a2
        rw [hr] at hr2
        injection hr2 with hr2
        rw [hr2]; simp [h]
  have hst := run_storeCells_at Try.prog g (k * 3) 78 (vC (List.replicate s zeroV)) 0 cur w hg (by rw [vC_len]; simp; omega) (vC_one _)
  obtain ⟨m, rfl⟩ : ∃ m, s = m + 1 := ⟨s - 1, by omega⟩
  rw [vC_len, List.length_replicate, Nat.add_zero] at hst
  simp [Builtin.clear_, run_underlying Try.underlying99, hz, hzc, hst]
set_option maxRecDepth 100000 in
set_option maxHeartbeats 1000000 in
/-- where its row is known -/
theorem kept_own (c g n cap k : Nat) (w : World) (c0 : w.cell? ⟨c, 0, none⟩ = some (.slice (some ⟨g, 0, none⟩) n cap)) (c1 : w.cell? ⟨c, 1, none⟩ = some (.int .i64 (k : Int))) (hk : k ≤ n) (hn : n ≤ cap) (hm : cap ≤ maxLen) :
    Calls Try.prog 48 #[.pointer (some ⟨c, 0, none⟩)] w fun e w' => ∃ off, e = .returned (.slice (some ⟨g, off, none⟩) (n - k) (cap - k)) ∧ (k < n → off = k * 3) ∧ ∃ m, w' = w.drewN m := by
  unfold maxLen at hm
  have hk0 : (0 : Int) ≤ (k : Int) := by omega
  have hkn : (k : Int) ≤ (n : Int) := by omega
  have hkp : (k : Int) ≤ (cap : Int) := by omega
  by_cases hkc : k = cap
  · have hn2 : n = cap := by omega
    subst hn2
    subst hkc
    clear hkn hkp hn hk
    go_enter Try.func48, Try.ntmps48
    go_wp2
    go_quiet (fail)
    go_wp2
    go_ret
    exact ⟨0, by simp, fun h => absurd h (Nat.lt_irrefl _), _, rfl⟩
  · have hkz : ¬ (k : Int) = (cap : Int) := by omega
    go_enter Try.func48, Try.ntmps48
    go_wp2
    go_quiet (fail)
    go_wp2
    go_ret
    exact ⟨k * 3, rfl, fun _ => rfl, _, rfl⟩
end Go.Proofs.Ythioghbifpphiaa.Cn
