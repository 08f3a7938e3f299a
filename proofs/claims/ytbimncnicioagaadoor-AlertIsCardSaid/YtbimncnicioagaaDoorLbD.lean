/- Contracts of the library's Equal at pairs, of package label's Same and Len: for few pairs; no other condition. -/
import Derived.Test.YtbimncnicioagaaDoorLbC
import Derived.Laws.StructEq
namespace Go.Proofs.YtbimncnicioagaaDoor.Lb
open Go.RowKit Ch Jt
set_option linter.unusedSimpArgs false
set_option linter.unusedVariables false

theorem neqP (a b c d : ByteArray) (W : World) : (binOp .neq 58 (.agg #[.string a, .string b]) (.agg #[.string c, .string d])).run Tryd.prog W = .ok (.bool (!decide (a.data.toList = c.data.toList ∧ b.data.toList = d.data.toList))) W := by
  have u9 := Tryd.underlying9
  have hS : Tryd.prog.underlying 58 = some (.struct (Tryd.prog.fieldsOf 58)) := by kernel_rfl
  have hp : Tryd.prog.stoodInHeld 58 = false := by kernel_rfl
  rw [run_neq_struct, show (10000 : Nat) = 9999 + 1 from rfl, run_equalIn_agg W 9999 58 _ _ hS hp]
  simp only [Program.fieldsOf, Tryd.underlying58]
  go_simp
  simp only [Lib.toList_data]
  by_cases h1 : a.data = c.data <;> by_cases h2 : b.data = d.data <;> simp [h1, h2]
theorem ba_ext {a b : ByteArray} (h : a.data.toList = b.data.toList) : a = b := by
  obtain ⟨⟨a⟩⟩ := a
  obtain ⟨⟨b⟩⟩ := b
  have h' : a = b := h
  rw [h']
theorem fb_eq (x y : FB) : (x.1.data.toList = y.1.data.toList ∧ x.2.data.toList = y.2.data.toList) ↔ x = y := by
  constructor
  · rintro ⟨h1, h2⟩
    obtain ⟨a, b⟩ := x
    obtain ⟨c, d⟩ := y
    have e1 : a = c := ba_ext h1
    have e2 : b = d := ba_ext h2
    rw [e1, e2]
  · rintro rfl; exact ⟨rfl, rfl⟩
theorem rdf_at2 {ao : Option Addr} {cap n : Nat} {gs : List FB} {w : World} (h : RdF (.slice ao n cap) gs w) (h0 : 0 < gs.length) : ∃ g off, ao = some ⟨g, off, none⟩ ∧ g < w.heap.size ∧ ∀ i (hi : i < gs.length), w.cell? ⟨g, off + i * 2, none⟩ = some (.string gs[i].1) ∧ w.cell? ⟨g, off + i * 2 + 1, none⟩ = some (.string gs[i].2) := by
  obtain ⟨ao', cp, e, hh⟩ := h
  injection e with ea eb ec
  subst ea
  exact hh h0
set_option maxRecDepth 100000 in
set_option maxHeartbeats 4000000 in
theorem Len_c (a1 : Option Addr) (n c1 : Nat) (w : World) (hm : n ≤ 9223372036854775807) :
    Calls Tryd.prog 22 #[.agg #[.slice a1 n c1]] w fun e w' => e = .returned (.int .i64 (n : Int)) ∧ Below w.heap.size w w' := by
  have HB2 := Lib.hid ((Below.refl w.heap.size w).alloc (Nat.le_refl _) (.cells #[.slice a1 n c1] 27))
  go_enter Tryd.func22, Tryd.ntmps22
  go_wp2
  go_ret
  exact ⟨rfl, HB2.out⟩
end Go.Proofs.YtbimncnicioagaaDoor.Lb
