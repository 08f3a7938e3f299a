/- Contracts of package label's Pairs, of the law's own Plain, of the document's Same at two rows of the same pairs: for few pairs; no other condition. -/
import Derived.Test.YtbimncnicioagaaDoorLbEa
namespace Go.Proofs.YtbimncnicioagaaDoor.Lb
open Go.RowKit Ch Jt
set_option linter.unusedSimpArgs false
set_option linter.unusedVariables false

theorem own_mono {T : TypeId} {B B' k n : Nat} {v : Value} {xs : List Value} {w : World} (h : w.ownsRow B T k v n xs) (hB : B' ≤ B) : w.ownsRow B' T k v n xs := by
  obtain ⟨h1, h2⟩ := h
  refine ⟨h1, ?_⟩
  rcases h2 with h2 | ⟨g, cap, cur, hv, hb, rest⟩
  · exact .inl h2
  · exact .inr ⟨g, cap, cur, hv, Nat.le_trans hB hb, rest⟩
theorem clone_c (ao : Option Addr) (cap : Nat) (gs : List FB) (w : World) (hR : RdF (.slice ao gs.length cap) gs w) (hp : Pl ao) (hm : gs.length ≤ 1000) :
    Calls Tryd.prog 50 #[.slice ao gs.length cap] w fun e w' => ∃ v, e = .returned v ∧ OwF 58 w.heap.size v gs w' ∧ Below w.heap.size w w' := by
  obtain ⟨i0, hi, hz0, hz1, hz2⟩ := info_parts info2
  rcases hp with rfl | ⟨b, rfl⟩
  · have h0 : gs = [] := by
      cases gs with
      | nil => rfl
      | cons x r => obtain ⟨g, off, e, _⟩ := rdf_at2 hR (by simp); cases e
    subst h0
    have h := AnyE.slices_Clone_nil (P := Tryd.prog) Tryd.cloneP 0 cap w
    exact Calls.mono h fun e w' ⟨he, hw⟩ => ⟨_, he, World.ownsRow_nil _ _ _ _, by rw [hw]; exact Below.refl _ _⟩
  · have h := AnyE.slices_Clone (P := Tryd.prog) Tryd.cloneP i0 _ 2 32 hi hz0 hz1 hz2 rfl (by decide) Tryd.sizeOf58 b 0 gs.length cap (fC gs) w (fC_len gs) (by unfold maxLen; omega) (by omega) (fun j u hu => by
      have hj : j < gs.length * 2 := by
        rcases Nat.lt_or_ge j (gs.length * 2) with h | h
        · exact h
        · rw [List.getElem?_eq_none (by rw [fC_len]; exact h)] at hu; cases hu
      have hq : j / 2 < gs.length := by omega
      obtain ⟨a0, a1⟩ := fC_at gs (j / 2) hq
      obtain ⟨b0, b1, _⟩ := rdf_at hR hq
      rw [Nat.zero_add]
      rcases Nat.mod_two_eq_zero_or_one j with h | h
      · have ej : j = j / 2 * 2 := by omega
        rw [ej] at hu ⊢
        rw [b0, ← a0, hu]
      · have ej : j = j / 2 * 2 + 1 := by omega
        rw [ej] at hu ⊢
        rw [b1, ← a1, hu]) (fC_one gs)
    exact Calls.mono h fun e w' ⟨v, he, ho, _, hb⟩ => ⟨v, he, ho, hb⟩
set_option maxRecDepth 100000 in
set_option maxHeartbeats 4000000 in
theorem Prs_c (ao : Option Addr) (cap : Nat) (gs : List FB) (w : World) (hR : RdF (.slice ao gs.length cap) gs w) (hp : Pl ao) (hm : gs.length ≤ 1000) :
    Calls Tryd.prog 37 #[.agg #[.slice ao gs.length cap]] w fun e w' => ∃ v, e = .returned v ∧ OwF 58 w.heap.size v gs w' ∧ Below w.heap.size w w' := by
  have hba := (Below.refl w.heap.size w).alloc (Nat.le_refl _) (.cells #[.slice ao gs.length cap] 27)
  have HC := Lib.hid (clone_c ao cap gs _ (hR.go hba) hp hm)
  have HBA := Lib.hid hba
  clear hba hR hp
  go_enter Tryd.func37, Tryd.ntmps37
  go_wp2_with fail
  refine HC.out.mono ?_
  rintro e w2 ⟨v, rfl, ho, hb⟩
  have HO := Lib.hid (own_mono ho HBA.out.size)
  have HB2 : Hid (Below w.heap.size w w2) := HBA.out.trans (hb.mono HBA.out.size)
  clear ho hb
  go_wp2
  go_ret
  exact ⟨_, rfl, HO.out, HB2.out⟩
set_option maxRecDepth 100000 in
set_option maxHeartbeats 4000000 in
theorem Plain_c (ao : Option Addr) (cap : Nat) (gs : List FB) (w : World) (hR : RdF (.slice ao gs.length cap) gs w) (hp : Pl ao) (hm : gs.length ≤ 1000) :
    Calls Tryd.prog 26 #[.agg #[.slice ao gs.length cap]] w fun e w' => ∃ v, e = .returned v ∧ OwF 56 w.heap.size v gs w' ∧ Below w.heap.size w w' := by
  have hba := (Below.refl w.heap.size w).alloc (Nat.le_refl _) (.cells #[.slice ao gs.length cap] 27)
  have HC2 := Lib.hid (Prs_c ao cap gs _ (hR.go hba) hp hm)
  have HBA := Lib.hid hba
  obtain ⟨ir, hir, hra, hrb, hrc⟩ := info_parts infoR
  clear hba hR hp
  go_enter Tryd.func26, Tryd.ntmps26
  go_wp2_with fail
  refine HC2.out.mono ?_
  rintro e w2 ⟨v, rfl, ho, hb⟩
  obtain ⟨ap, cp, hv⟩ := own_lenF ho
  subst hv
  have HR2 := Lib.hid ho.rd
  have HB2 : Hid (Below w.heap.size w w2) := HBA.out.trans (hb.mono HBA.out.size)
  clear ho hb HC2
  go_wp2
  go_loopw [3, 9] (fun ov iv wr => ∃ j : Nat, j ≤ gs.length ∧ iv = .int .i64 j ∧ Hid (OwF 56 w2.heap.size ov (gs.take j) wr) ∧ Hid (Below w2.heap.size w2 wr)) (fun _ iv _ => gs.length - (intOf iv).toNat)
  case atStart => exact ⟨0, by omega, rfl, Lib.hid (World.ownsRow_nil _ _ _ _), Lib.hid (Below.refl _ _)⟩
  case round =>
    obtain ⟨j, hj, rfl, HO, HB⟩ := hrel
    obtain ⟨aoo, cpo, hv⟩ := own_lenF HO.out
    subst hv
    have HTL : Hid ((gs.take j).length = j) := by show _ = _; rw [List.length_take]; omega
    rw [HTL.out] at HO ⊢
    by_cases hlt : j < gs.length
    · obtain ⟨g, off, rfl, hg, hat⟩ := rdf_at2 (HR2.out.go HB.out) (by omega)
      obtain ⟨p0, p1⟩ := hat j hlt
      have HST : Hid (gs.take (j + 1) = gs.take j ++ [gs[j]]) := List.take_succ_eq_append_getElem hlt
      have hj0 : (0 : Int) ≤ (j : Int) := by omega
      have hjl : (j : Int) < (gs.length : Int) := by omega
      clear hat
      obtain ⟨⟨x, y⟩, hxy⟩ : ∃ f : FB, gs[j] = f := ⟨_, rfl⟩
      rw [hxy] at p0 p1 HST
      simp only at p0 p1
      clear hxy
      obtain ⟨W3, hW3, hk1, hk0, hb1⟩ := new_two wr (.string x) (.string y) 58 56
      have HW3 := Lib.hid hW3
      have HB3 : Hid (Below w2.heap.size w2 W3) := HB.out.trans (hb1.mono HB.out.size)
      have IO := Lib.hid (HO.out.go hb1)
      unfold OwF at IO
      rw [HTL.out] at IO
      have DC := Lib.hid (two_cell hk1)
      have D3 : Hid (j + 1 ≤ maxLen) := by show _ ≤ _; unfold maxLen; omega
      have D4 : Hid ((j + 1) * 32 ≤ 140737488355328) := by show _ ≤ _; omega
      have E1 : Hid (w2.heap.size ≤ W3.heap.size) := HB3.out.size
      clear hW3 hk1 hk0 hb1
      go_wp2_with (at_builtin; rw [← HW3.out]; refine wpList_append_own _ rfl _ _ 22 rfl w2.heap.size 56 ir _ 2 32 Tryd.underlying22 hir hra hrb hrc rfl (by decide) _ _ _ rfl IO.out ⟨wr.heap.size + 1, 0, none⟩ 1 1 [.string x, .string y] rfl rfl DC.out two_ok D3.out D4.out E1.out ?_)
      intro v1 V1 hown1 hgrow1 _
      have HBV : Hid (Below w2.heap.size w2 V1) := HB3.out.grown hgrow1 HB3.out.size (fun k hk => (IO.out.lt k hk).1)
      have JO : Hid (OwF 56 w2.heap.size v1 (gs.take (j + 1)) V1) := by
        show OwF _ _ _ _ _
        rw [HST.out]; unfold OwF; rw [fC_snoc, List.length_append, HTL.out]
        exact hown1
      clear hown1 hgrow1
      go_wp2
      go_roundw
      case rel => exact ⟨j + 1, by omega, by go_num, JO, HBV⟩
      case measure => simp [intOf]; omega
    · have hje : gs.take j = gs := List.take_of_length_le (by omega)
      have HLE : Hid (j = gs.length) := by show _ = _; omega
      rw [hje] at HO
      have HOZ : Hid (OwF 56 w.heap.size (.slice aoo j cpo) gs wr) := own_mono HO.out HB2.out.size
      have HBZ : Hid (Below w.heap.size w wr) := HB2.out.trans (HB.out.mono HB2.out.size)
      clear hje HO
      go_wp2
      go_ret
      exact ⟨_, rfl, HOZ.out, HBZ.out⟩
theorem neqR (a b c d : ByteArray) (W : World) : (binOp .neq 56 (.agg #[.string a, .string b]) (.agg #[.string c, .string d])).run Tryd.prog W = .ok (.bool (!decide (a.data.toList = c.data.toList ∧ b.data.toList = d.data.toList))) W := by
  have u9 := Tryd.underlying9
  have hS : Tryd.prog.underlying 56 = some (.struct (Tryd.prog.fieldsOf 56)) := by kernel_rfl
  have hp : Tryd.prog.stoodInHeld 56 = false := by kernel_rfl
  rw [run_neq_struct, show (10000 : Nat) = 9999 + 1 from rfl, run_equalIn_agg W 9999 56 _ _ hS hp]
  simp only [Program.fieldsOf, Tryd.underlying56]
  go_simp
  simp only [Lib.toList_data]
  by_cases h1 : a.data = c.data <;> by_cases h2 : b.data = d.data <;> simp [h1, h2]
set_option maxRecDepth 100000 in
set_option maxHeartbeats 4000000 in
theorem RSame_c (a1 a2 : Option Addr) (c1 c2 : Nat) (xs : List FB) (w : World) (hA : RdF (.slice a1 xs.length c1) xs w) (hB : RdF (.slice a2 xs.length c2) xs w) (hm : xs.length ≤ 1000) :
    Calls Tryd.prog 25 #[.slice a1 xs.length c1, .slice a2 xs.length c2] w fun e w' => e = .returned (.bool true) ∧ Below w.heap.size w w' := by
  have HA := Lib.hid hA
  have HB := Lib.hid hB
  clear hA hB
  go_enter Tryd.func25, Tryd.ntmps25
  go_wp2
  go_loopw [13] (fun v wr => ∃ j : Nat, j ≤ xs.length ∧ v = .int .i64 j ∧ Hid (Below w.heap.size w wr)) (fun v _ => xs.length - (intOf v).toNat)
  case atStart => exact ⟨0, by omega, rfl, Lib.hid (Below.refl _ _)⟩
  case round =>
    obtain ⟨j, hj, rfl, HBW⟩ := hrel
    by_cases hlt : j < xs.length
    · obtain ⟨g1, o1, rfl, hg1, hat1⟩ := rdf_at2 (HA.out.go HBW.out) (by omega)
      obtain ⟨g2, o2, rfl, hg2, hat2⟩ := rdf_at2 (HB.out.go HBW.out) (by omega)
      obtain ⟨p0, p1⟩ := hat1 j hlt
      obtain ⟨q0, q1⟩ := hat2 j hlt
      have hj0 : (0 : Int) ≤ (j : Int) := by omega
      have hjl : (j : Int) < (xs.length : Int) := by omega
      have hN := fun W => neqR xs[j].1 xs[j].2 xs[j].1 xs[j].2 W
      rw [decide_eq_true (⟨rfl, rfl⟩ : xs[j].1.data.toList = xs[j].1.data.toList ∧ xs[j].2.data.toList = xs[j].2.data.toList)] at hN
      clear hat1 hat2
      revert p0 p1 q0 q1 hN
      generalize xs[j].1 = xa
      generalize xs[j].2 = xb
      intro p0 p1 q0 q1 hN
      go_wp2_with fail
      go_quiet (fail)
      go_wp2
      go_roundw
      case rel => exact ⟨j + 1, by omega, by go_num, Lib.hid (HBW.out.trans ((bdrN wr _).mono HBW.out.size))⟩
      case measure => simp [intOf]; omega
    · go_wp2
      go_ret
      exact ⟨rfl, HBW.out⟩
end Go.Proofs.YtbimncnicioagaaDoor.Lb
