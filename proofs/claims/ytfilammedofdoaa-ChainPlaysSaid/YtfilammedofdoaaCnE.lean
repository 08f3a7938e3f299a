/- Contracts of package chain's All (the library's Clone), New, Put: at every chain of the call's own; no other condition. -/
import Derived.Test.YtfilammedofdoaaCnD
import Derived.Lib.LazyBuf
namespace Go.Proofs.Ytfilammedofdoaa.Cn
open Go.RowKit Go.Lib Go.Shelf Go.Sort
set_option linter.unusedSimpArgs false
set_option linter.unusedVariables false

theorem infoC : (Try.prog.info? 33).map (fun i => (i.zero, i.size, i.bytes)) = some (some (.agg #[.int .i64 0, .string ⟨#[]⟩, .bool false]), 3, 32) := by kernel_rfl
theorem OwV.mono {T : TypeId} {B B' : Nat} {v : Value} {l : List Ver} {w : World} (h : OwV T B v l w) (hB : B' ≤ B) : OwV T B' v l w := by
  obtain ⟨h1, h2⟩ := h
  refine ⟨h1, ?_⟩
  rcases h2 with h2 | ⟨g, cap, cur, hv, hb, rest⟩
  · exact .inl h2
  · exact .inr ⟨g, cap, cur, hv, Nat.le_trans hB hb, rest⟩
/-- the cells of versions that can be read, one behind the other -/
theorem rdv_cells {g off cap n : Nat} {l : List Ver} {w : World} (h : RdV (.slice (some ⟨g, off, none⟩) n cap) l w) : ∀ j u, (vC l)[j]? = some u → w.cell? ((⟨g, off, none⟩ : Addr).add j) = some u := by
  intro j u hu
  have ea : (⟨g, off, none⟩ : Addr).add j = ⟨g, off + j, none⟩ := by unfold Addr.add; split <;> simp_all
  rw [ea]
  have hj : j < l.length * 3 := by
    rcases Nat.lt_or_ge j (l.length * 3) with h | h
    · exact h
    · rw [List.getElem?_eq_none (by rw [vC_len]; exact h)] at hu; cases hu
  have hq : j / 3 < l.length := by omega
  obtain ⟨g', off', e, _, hat⟩ := rdv_at h (by omega)
  injection e with e
  injection e with e1 e2
  subst e1 e2
  obtain ⟨a0, a1, a2⟩ := vC_at l (j / 3) hq
  obtain ⟨b0, b1, b2⟩ := hat (j / 3) hq
  have hm : j % 3 = 0 ∨ j % 3 = 1 ∨ j % 3 = 2 := by omega
  rcases hm with h | h | h
  · have ej : j = j / 3 * 3 := by omega
    rw [ej] at hu ⊢
    rw [b0, ← a0, hu]
  · have ej : j = j / 3 * 3 + 1 := by omega
    rw [ej] at hu ⊢
    rw [← Nat.add_assoc, b1, ← a1, hu]
  · have ej : j = j / 3 * 3 + 2 := by omega
    rw [ej] at hu ⊢
    rw [← Nat.add_assoc, b2, ← a2, hu]
set_option maxRecDepth 100000 in
set_option maxHeartbeats 2000000 in
theorem clone_c (ao : Option Addr) (cap : Nat) (l : List Ver) (w : World) (hR : RdV (.slice ao l.length cap) l w) (hp : ∀ a, ao = some a → ∃ g off, a = ⟨g, off, none⟩) (hm : l.length ≤ 1000000) :
    Calls Try.prog 23 #[.slice ao l.length cap] w fun e w' => ∃ v, e = .returned v ∧ RdV v l w' ∧ Below w.heap.size w w' := by
  obtain ⟨i0, hi, hz0, hz1, hz2⟩ := info_parts infoC
  cases ao with
  | none =>
    have h0 : l = [] := by
      cases l with
      | nil => rfl
      | cons x r => obtain ⟨g, off, e, _⟩ := rdv_at hR (by simp); cases e
    subst h0
    have q : ∀ W : World, (binOp .eql 40 (.slice none 0 cap) (.slice none 0 0)).run Try.prog W = .ok (.bool true) W := fun W => Lib.run_eql_slice_nil W _ _ _ _ _ _ _ Try.underlying40
    go_enter Try.func23, Try.ntmps23
    go_wp2
    go_ret
    exact ⟨_, rfl, rdv_nil _ _ _, Below.refl _ _⟩
  | some a =>
    obtain ⟨g, off, rfl⟩ := hp a rfl
    obtain ⟨W0, hW0, hO, hb0⟩ : ∃ W0, W0 = w.alloc (.cells #[] 33) ∧ OwV 33 w.heap.size (.slice (some ⟨w.heap.size, 0, none⟩) 0 0) [] W0 ∧ Below w.heap.size w W0 := ⟨_, rfl, World.ownsRow_made w #[] 0 (Nat.le_refl _) (by unfold maxLen; omega) rfl, (Below.refl _ _).alloc (Nat.le_refl _) _⟩
    have HC := Lib.hid (rdv_cells (hR.go hb0))
    have HO := Lib.hid hO
    have HB0 := Lib.hid hb0
    have HW0 := Lib.hid hW0
    have D1 := Lib.hid (vC_len l)
    have D2 := Lib.hid (vC_one l)
    have D3 : Hid (0 + l.length ≤ maxLen) := by show _ ≤ _; unfold maxLen; omega
    have D4 : Hid ((0 + l.length) * 32 ≤ 140737488355328) := by show _ ≤ _; omega
    have D5 : Hid (w.heap.size ≤ W0.heap.size) := hb0.size
    have q : ∀ W : World, (binOp .eql 40 (.slice (some ⟨g, off, none⟩) l.length cap) (.slice none 0 0)).run Try.prog W = .ok (.bool false) W := fun W => Lib.run_eql_slice_nil W _ _ _ _ _ _ _ Try.underlying40
    clear hO hb0 hW0 hR
    go_enter Try.func23, Try.ntmps23
    go_wp2_with (at_builtin; rw [← HW0.out]; refine wpList_append_own _ rfl _ _ 40 rfl w.heap.size 33 i0 _ 3 32 Try.underlying40 hi hz0 hz1 hz2 rfl (by decide) _ _ _ rfl HO.out ⟨g, off, none⟩ l.length cap (vC l) rfl D1.out HC.out D2.out D3.out D4.out D5.out ?_)
    intro v1 V1 hown1 hgrow1 _
    have hB1 : Below w.heap.size w V1 := HB0.out.grown hgrow1 HB0.out.size (fun k hk => (HO.out.lt k hk).1)
    have hO1 : OwV 33 w.heap.size v1 l V1 := by
      show World.ownsRow _ _ _ _ _ _ _
      exact hown1
    have HB1 := Lib.hid hB1
    have HO1 := Lib.hid hO1
    clear hown1 hgrow1 hB1 hO1
    go_wp2
    go_ret
    exact ⟨_, rfl, HO1.out.rd, HB1.out⟩
end Go.Proofs.Ytfilammedofdoaa.Cn
