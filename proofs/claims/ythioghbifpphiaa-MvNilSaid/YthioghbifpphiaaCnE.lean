/- Contracts of package chain's All (the library's Clone), New, Put: at every chain of the call's own; no other condition. -/
import Derived.Test.YthioghbifpphiaaCnD
import Derived.Lib.LazyBuf
namespace Go.Proofs.Ythioghbifpphiaa.Cn
open Go.RowKit Go.Lib Go.Shelf Go.Sort
set_option linter.unusedSimpArgs false
set_option linter.unusedVariables false

theorem infoC : (Try.prog.info? 78).map (fun i => (i.zero, i.size, i.bytes)) = some (some (.agg #[.int .i64 0, .string ⟨#[]⟩, .bool false]), 3, 32) := by kernel_rfl
theorem OwV.mono {T : TypeId} {B B' : Nat} {v : Value} {l : List Ver} {w : World} (h : OwV T B v l w) (hB : B' ≤ B) : OwV T B' v l w := by
  obtain ⟨h1, h2⟩ := h
  refine ⟨h1, ?_⟩
  rcases h2 with h2 | ⟨g, cap, cur, hv, hb, rest⟩
  · exact .inl h2
  · exact .inr ⟨g, cap, cur, hv, Nat.le_trans hB hb, rest⟩
/-- the cells of versions that can be read, one behind the other -/
theorem rdv_cells {g off cap n : Nat} {l : List Ver} {w : World} (h : RdV (.slice (some ⟨g, off, none⟩) n cap) l w) : ∀ j u, (vC l)[j]? = some u → w.cell? ((⟨g, off, none⟩ : Addr).add j) = some u := by
  intro j u hu
  have ea : (⟨g, off, none⟩ : Addr).add j = ⟨g, off + j, none⟩ := by unfold Addr.add; split <;> simp_all
  rw [ea]
  have hj : j < l.length * 3 := by
    rcases Nat.lt_or_ge j (l.length * 3) with h | h
    · exact h
    · rw [List.getElem?_eq_none (by rw [vC_len]; exact h)] at hu; cases hu
  have hq : j / 3 < l.length := by omega
  obtain ⟨g', off', e, _, hat⟩ := rdv_at h (by omega)
  injection e with e
  injection e with e1 e2
  subst e1 e2
  obtain ⟨a0, a1, a2⟩ := vC_at l (j / 3) hq
  obtain ⟨b0, b1, b2⟩ := hat (j / 3) hq
  have hm : j % 3 = 0 ∨ j % 3 = 1 ∨ j % 3 = 2 := by omega
  rcases hm with h | h | h
  · have ej : j = j / 3 * 3 := by omega
    rw [ej] at hu ⊢
    rw [b0, ← a0, hu]
  · have ej : j = j / 3 * 3 + 1 := by omega
    rw [ej] at hu ⊢
    rw [← Nat.add_assoc, b1, ← a1, hu]
  · have ej : j = j / 3 * 3 + 2 := by omega
    rw [ej] at hu ⊢
    rw [← Nat.add_assoc, b2, ← a2, hu]
end Go.Proofs.Ythioghbifpphiaa.Cn
