/- Contracts of package head's places, head and Parse at chapter 10's example, and of the statements' awake; where the library's variable MaxLen holds a number. -/
import Derived.Test.YtkblggpnghdnmaaGreatDoorHdFirst
namespace Go.Proofs.YtkblggpnghdnmaaGreatDoor.Hd
open Go.RowKit Ch
set_option linter.unusedSimpArgs false
set_option linter.unusedVariables false

theorem OwF.go {B : Nat} {ao : Option Addr} {c : Nat} {w w' : World} (h : OwF B ao c w) (hb : Below w.heap.size w w') : OwF B ao c w' :=
  World.ownsRow.kept h (row := none) ⟨hb.os, hb.tape, hb.output, hb.size, fun k hk _ => hb.block k hk⟩ (by cases hv : (Value.slice ao 1 c).ownBlock <;> simp)
theorem owf_at {B : Nat} {ao : Option Addr} {c : Nat} {w : World} (h : OwF B ao c w) : ∃ f, ao = some ⟨f, 0, none⟩ ∧ f < w.heap.size ∧ B ≤ f ∧ 1 ≤ c ∧ w.cell? ⟨f, 0, none⟩ = some (.string ⟨#[72, 111, 115, 116]⟩) ∧ w.cell? ⟨f, 1, none⟩ = some (.string ⟨#[120]⟩) := by
  rcases h.2 with ⟨h1, h0⟩ | ⟨f, cap, cur, hv, hB, hg, hc, hcm, hsz, htk⟩
  · exact absurd h0 (by decide)
  · injection hv with h1 h2 h3
    subst h1 h3
    refine ⟨f, rfl, (Array.getElem?_eq_some_iff.1 hg).1, hB, hc, ?_, ?_⟩
    · rw [cell_of_row _ _ _ _ _ _ hg]
      have : (cur.toList.take (1 * 2))[0]? = some (.string ⟨#[72, 111, 115, 116]⟩) := by rw [htk]; rfl
      rw [List.getElem?_take_of_lt (by omega), Array.getElem?_toList] at this
      exact this
    · rw [cell_of_row _ _ _ _ _ _ hg]
      have : (cur.toList.take (1 * 2))[1]? = some (.string ⟨#[120]⟩) := by rw [htk]; rfl
      rw [List.getElem?_take_of_lt (by omega), Array.getElem?_toList] at this
      exact this
theorem infoI : (Tryz.prog.info? 3).map (fun i => (i.zero, i.size, i.bytes)) = some (some (.int .i64 0), 1, 8) := by kernel_rfl
theorem same_ex (w : World) : Calls Tryz.prog 43 #[.string ⟨#[72, 111, 115, 116]⟩, .string ⟨#[72, 111, 115, 116]⟩] w fun e w' => e = .returned (.bool true) ∧ Below w.heap.size w w' := by
  have h := same_c ⟨#[72, 111, 115, 116]⟩ ⟨#[72, 111, 115, 116]⟩ w (by decide) (by decide)
  rw [decide_eq_true rfl] at h
  exact h
set_option maxRecDepth 100000 in
set_option maxHeartbeats 8000000 in
theorem places_c (f q c : Nat) (a1 a2 : ByteArray) (w : World) (hf : f < w.heap.size) (hq : q < w.heap.size) (hc : 1 ≤ c) (f0 : w.cell? ⟨f, 0, none⟩ = some (.string ⟨#[72, 111, 115, 116]⟩)) (f1 : w.cell? ⟨f, 1, none⟩ = some (.string ⟨#[120]⟩)) (q0 : w.cell? ⟨q, 0, none⟩ = some (.string ⟨#[72, 111, 115, 116]⟩)) :
    Calls Tryz.prog 28 #[.agg #[.string a1, .string a2, .int .i64 1, .slice (some ⟨f, 0, none⟩) 1 c], .slice (some ⟨q, 0, none⟩) 1 1] w fun e w' => ∃ ao cp, e = .returned (.slice ao 1 cp) ∧ Below w.heap.size w w' := by
  obtain ⟨i0, hi, hz0, hz1, hz2⟩ := info_parts infoI
  have hnf : f ≠ w.heap.size := by omega
  have hnq : q ≠ w.heap.size := by omega
  have hnf1 : f ≠ w.heap.size + 1 := by omega
  have hnq1 : q ≠ w.heap.size + 1 := by omega
  have HB0 : Hid (Below w.heap.size w ((w.alloc (.cells #[.string a1, .string a2, .int .i64 1, .slice (some ⟨f, 0, none⟩) 1 c] 35)).alloc (.cells #[.string ⟨#[72, 111, 115, 116]⟩, .string ⟨#[120]⟩] 86))) := ((Below.refl _ _).alloc (Nat.le_refl _) _).alloc (by simp) _
  go_enter Tryz.func28, Tryz.ntmps28
  go_wp2
  refine wp_loop_rounds 2 ?_
  rw [rounds_succ]
  go_wp2
  refine wp_loop_rounds 1 ?_
  rw [rounds_succ]
  go_wp2_with fail
  refine (same_ex _).mono ?_
  rintro e w2 ⟨rfl, hb2⟩
  have HB2 : Hid (Below w.heap.size w w2) := HB0.out.trans (hb2.mono HB0.out.size)
  clear hb2 f0 f1 q0
  have HD : Hid (∃ W2, W2 = w2.alloc (.cells #[.int .i64 0] 3) ∧ W2.heap[w2.heap.size]? = some (.cells #[.int .i64 0] 3 (0, 0)) ∧ Below w2.heap.size w2 W2) := ⟨_, rfl, heap_alloc_new w2 _, (Below.refl _ _).alloc (Nat.le_refl _) _⟩
  obtain ⟨W2, hW2, hk3, hbW⟩ := HD.out
  have HK3 := Lib.hid hk3
  have HW2 := Lib.hid hW2
  have HBW : Hid (Below w.heap.size w W2) := HB2.out.trans (hbW.mono HB2.out.size)
  clear HD hk3 hW2 hbW
  go_wp2_with (at_builtin; rw [← HW2.out]; refine wpList_append_own _ rfl _ _ 67 rfl w.heap.size 3 i0 _ 1 8 Tryz.underlying67 hi hz0 hz1 hz2 rfl (by decide) _ _ _ rfl (World.ownsRow_nil _ _ _ _) ⟨w2.heap.size, 0, none⟩ 1 1 [.int .i64 0] rfl rfl ?c1 ?c2 ?c3 ?c4 ?c5 ?_)
  case c1 =>
    intro j v hj
    match j, hj with
    | 0, hj =>
      have ea : (⟨w2.heap.size, 0, none⟩ : Addr).add 0 = ⟨w2.heap.size, 0, none⟩ := by unfold Addr.add; split <;> simp_all
      rw [ea, cell_of_row _ _ 0 _ _ _ HK3.out]; exact hj
  case c2 => intro v hv; simp at hv; subst hv; rfl
  case c3 => unfold maxLen; omega
  case c4 => omega
  case c5 => exact HBW.out.size
  intro v' w5 hown' hgrow _
  have HB5 : Hid (Below w.heap.size w w5) := HBW.out.grown hgrow HBW.out.size (fun k hk => by simp [Value.ownBlock] at hk)
  obtain ⟨ao, cap, hv5⟩ : ∃ ao cap, v' = .slice ao 1 cap := by
    rcases hown'.2 with ⟨rfl, h0⟩ | ⟨gg, cap, cur, rfl, _⟩
    · exact absurd h0 (by decide)
    · exact ⟨_, _, rfl⟩
  subst hv5
  clear hown' hgrow
  go_wp2_with fail
  rw [rounds_succ]
  go_wp2
  go_ret
  exact ⟨ao, cap, rfl, HB5.out⟩
end Go.Proofs.YtkblggpnghdnmaaGreatDoor.Hd
