/- Contracts and plain mathematics of some packages' functions, laid together; conditions as each one says. -/
import Derived.Test.YtjgbfpkjkglfnaaGreatDoorLbAa
import Derived.Deep.Strs
import Derived.Deep.RegionHeld3
import Derived.Laws.Cover1
import Derived.Laws.AppendOwnNone
import Derived.BigQuiet
namespace Go.Proofs.YtjgbfpkjkglfnaaGreatDoor.Lb
open Go.RowKit Ch Jt
set_option linter.unusedSimpArgs false
set_option linter.unusedVariables false

theorem own_mono {T : TypeId} {B B' k n : Nat} {v : Value} {xs : List Value} {w : World} (h : w.ownsRow B T k v n xs) (hB : B' ≤ B) : w.ownsRow B' T k v n xs := by
  obtain ⟨h1, h2⟩ := h
  refine ⟨h1, ?_⟩
  rcases h2 with h2 | ⟨g, cap, cur, hv, hb, rest⟩
  · exact .inl h2
  · exact .inr ⟨g, cap, cur, hv, Nat.le_trans hB hb, rest⟩
theorem clone_c (ao : Option Addr) (cap : Nat) (gs : List FB) (w : World) (hR : RdF (.slice ao gs.length cap) gs w) (hp : Pl ao) (hm : gs.length ≤ 1000) :
    Calls Tryz.prog 46 #[.slice ao gs.length cap] w fun e w' => ∃ v, e = .returned v ∧ OwF 44 w.heap.size v gs w' ∧ Below w.heap.size w w' := by
  obtain ⟨i0, hi, hz0, hz1, hz2⟩ := info_parts info2
  rcases hp with rfl | ⟨b, rfl⟩
  · have h0 : gs = [] := by
      cases gs with
      | nil => rfl
      | cons x r => obtain ⟨g, off, e, _⟩ := rdf_at2 hR (by simp); cases e
    subst h0
    have h := AnyE.slices_Clone_nil (P := Tryz.prog) Tryz.cloneP 0 cap w
    exact Calls.mono h fun e w' ⟨he, hw⟩ => ⟨_, he, World.ownsRow_nil _ _ _ _, by rw [hw]; exact Below.refl _ _⟩
  · have h := AnyE.slices_Clone (P := Tryz.prog) Tryz.cloneP i0 _ 2 32 hi hz0 hz1 hz2 rfl (by decide) Tryz.sizeOf44 b 0 gs.length cap (fC gs) w (fC_len gs) (by unfold maxLen; omega) (by omega) (fun j u hu => by
      have hj : j < gs.length * 2 := by
        rcases Nat.lt_or_ge j (gs.length * 2) with h | h
        · exact h
        · rw [List.getElem?_eq_none (by rw [fC_len]; exact h)] at hu; cases hu
      have hq : j / 2 < gs.length := by omega
      obtain ⟨a0, a1⟩ := fC_at gs (j / 2) hq
      obtain ⟨b0, b1, _⟩ := rdf_at hR hq
      rw [Nat.zero_add]
      rcases Nat.mod_two_eq_zero_or_one j with h | h
      · have ej : j = j / 2 * 2 := by omega
        rw [ej] at hu ⊢
        rw [b0, ← a0, hu]
      · have ej : j = j / 2 * 2 + 1 := by omega
        rw [ej] at hu ⊢
        rw [b1, ← a1, hu]) (fC_one gs)
    exact Calls.mono h fun e w' ⟨v, he, ho, _, hb⟩ => ⟨v, he, ho, hb⟩
set_option maxRecDepth 100000 in
set_option maxHeartbeats 4000000 in
theorem Prs_c (ao : Option Addr) (cap : Nat) (gs : List FB) (w : World) (hR : RdF (.slice ao gs.length cap) gs w) (hp : Pl ao) (hm : gs.length ≤ 1000) :
    Calls Tryz.prog 28 #[.agg #[.slice ao gs.length cap]] w fun e w' => ∃ v, e = .returned v ∧ OwF 44 w.heap.size v gs w' ∧ Below w.heap.size w w' := by
  have hba := (Below.refl w.heap.size w).alloc (Nat.le_refl _) (.cells #[.slice ao gs.length cap] 27)
  have HC := Lib.hid (clone_c ao cap gs _ (hR.go hba) hp hm)
  have HBA := Lib.hid hba
  clear hba hR hp
  go_enter Tryz.func28, Tryz.ntmps28
  go_wp2_with fail
  refine HC.out.mono ?_
  rintro e w2 ⟨v, rfl, ho, hb⟩
  have HO := Lib.hid (own_mono ho HBA.out.size)
  have HB2 : Hid (Below w.heap.size w w2) := HBA.out.trans (hb.mono HBA.out.size)
  clear ho hb
  go_wp2
  go_ret
  exact ⟨_, rfl, HO.out, HB2.out⟩
set_option maxRecDepth 100000 in
set_option maxHeartbeats 4000000 in
theorem Plain_c (ao : Option Addr) (cap : Nat) (gs : List FB) (w : World) (hR : RdF (.slice ao gs.length cap) gs w) (hp : Pl ao) (hm : gs.length ≤ 1000) :
    Calls Tryz.prog 12 #[.agg #[.slice ao gs.length cap]] w fun e w' => ∃ v, e = .returned v ∧ OwF 43 w.heap.size v gs w' ∧ Below w.heap.size w w' := by
  have hba := (Below.refl w.heap.size w).alloc (Nat.le_refl _) (.cells #[.slice ao gs.length cap] 27)
  have HC2 := Lib.hid (Prs_c ao cap gs _ (hR.go hba) hp hm)
  have HBA := Lib.hid hba
  obtain ⟨ir, hir, hra, hrb, hrc⟩ := info_parts infoR
  clear hba hR hp
  go_enter Tryz.func12, Tryz.ntmps12
  go_wp2_with fail
  refine HC2.out.mono ?_
  rintro e w2 ⟨v, rfl, ho, hb⟩
  obtain ⟨ap, cp, hv⟩ := own_lenF ho
  subst hv
  have HR2 := Lib.hid ho.rd
  have HB2 : Hid (Below w.heap.size w w2) := HBA.out.trans (hb.mono HBA.out.size)
  clear ho hb HC2
  go_wp2
  go_loopw [3, 9] (fun ov iv wr => ∃ j : Nat, j ≤ gs.length ∧ iv = .int .i64 j ∧ Hid (OwF 43 w2.heap.size ov (gs.take j) wr) ∧ Hid (Below w2.heap.size w2 wr)) (fun _ iv _ => gs.length - (intOf iv).toNat)
  case atStart => exact ⟨0, by omega, rfl, Lib.hid (World.ownsRow_nil _ _ _ _), Lib.hid (Below.refl _ _)⟩
  case round =>
    obtain ⟨j, hj, rfl, HO, HB⟩ := hrel
    obtain ⟨aoo, cpo, hv⟩ := own_lenF HO.out
    subst hv
    have HTL : Hid ((gs.take j).length = j) := by show _ = _; rw [List.length_take]; omega
    rw [HTL.out] at HO ⊢
    by_cases hlt : j < gs.length
    · obtain ⟨g, off, rfl, hg, hat⟩ := rdf_at2 (HR2.out.go HB.out) (by omega)
      obtain ⟨p0, p1⟩ := hat j hlt
      have HST : Hid (gs.take (j + 1) = gs.take j ++ [gs[j]]) := List.take_succ_eq_append_getElem hlt
      have hj0 : (0 : Int) ≤ (j : Int) := by omega
      have hjl : (j : Int) < (gs.length : Int) := by omega
      clear hat
      obtain ⟨⟨x, y⟩, hxy⟩ : ∃ f : FB, gs[j] = f := ⟨_, rfl⟩
      rw [hxy] at p0 p1 HST
      simp only at p0 p1
      clear hxy
      obtain ⟨W3, hW3, hk1, hk0, hb1⟩ := new_two wr (.string x) (.string y) 44 43
      have HW3 := Lib.hid hW3
      have HB3 : Hid (Below w2.heap.size w2 W3) := HB.out.trans (hb1.mono HB.out.size)
      have IO := Lib.hid (HO.out.go hb1)
      unfold OwF at IO
      rw [HTL.out] at IO
      have DC := Lib.hid (two_cell hk1)
      have D3 : Hid (j + 1 ≤ maxLen) := by show _ ≤ _; unfold maxLen; omega
      have D4 : Hid ((j + 1) * 32 ≤ 140737488355328) := by show _ ≤ _; omega
      have E1 : Hid (w2.heap.size ≤ W3.heap.size) := HB3.out.size
      clear hW3 hk1 hk0 hb1
      go_wp2_with (at_builtin; rw [← HW3.out]; refine wpList_append_own _ rfl _ _ 22 rfl w2.heap.size 43 ir _ 2 32 Tryz.underlying22 hir hra hrb hrc rfl (by decide) _ _ _ rfl IO.out ⟨wr.heap.size + 1, 0, none⟩ 1 1 [.string x, .string y] rfl rfl DC.out two_ok D3.out D4.out E1.out ?_)
      intro v1 V1 hown1 hgrow1 _
      have HBV : Hid (Below w2.heap.size w2 V1) := HB3.out.grown hgrow1 HB3.out.size (fun k hk => (IO.out.lt k hk).1)
      have JO : Hid (OwF 43 w2.heap.size v1 (gs.take (j + 1)) V1) := by
        show OwF _ _ _ _ _
        rw [HST.out]; unfold OwF; rw [fC_snoc, List.length_append, HTL.out]
        exact hown1
      clear hown1 hgrow1
      go_wp2
      go_roundw
      case rel => exact ⟨j + 1, by omega, by go_num, JO, HBV⟩
      case measure => simp [intOf]; omega
    · have hje : gs.take j = gs := List.take_of_length_le (by omega)
      have HLE : Hid (j = gs.length) := by show _ = _; omega
      rw [hje] at HO
      have HOZ : Hid (OwF 43 w.heap.size (.slice aoo j cpo) gs wr) := own_mono HO.out HB2.out.size
      have HBZ : Hid (Below w.heap.size w wr) := HB2.out.trans (HB.out.mono HB2.out.size)
      clear hje HO
      go_wp2
      go_ret
      exact ⟨_, rfl, HOZ.out, HBZ.out⟩
theorem neqR (a b c d : ByteArray) (W : World) : (binOp .neq 43 (.agg #[.string a, .string b]) (.agg #[.string c, .string d])).run Tryz.prog W = .ok (.bool (!decide (a.data.toList = c.data.toList ∧ b.data.toList = d.data.toList))) W := by
  have u9 := Tryz.underlying9
  have hS : Tryz.prog.underlying 43 = some (.struct (Tryz.prog.fieldsOf 43)) := by kernel_rfl
  have hp : Tryz.prog.stoodInHeld 43 = false := by kernel_rfl
  rw [run_neq_struct, show (10000 : Nat) = 9999 + 1 from rfl, run_equalIn_agg W 9999 43 _ _ hS hp]
  simp only [Program.fieldsOf, Tryz.underlying43]
  go_simp
  simp only [Lib.toList_data]
  by_cases h1 : a.data = c.data <;> by_cases h2 : b.data = d.data <;> simp [h1, h2]
set_option maxRecDepth 100000 in
set_option maxHeartbeats 4000000 in
theorem RSame_c (a1 a2 : Option Addr) (c1 c2 : Nat) (xs : List FB) (w : World) (hA : RdF (.slice a1 xs.length c1) xs w) (hB : RdF (.slice a2 xs.length c2) xs w) (hm : xs.length ≤ 1000) :
    Calls Tryz.prog 11 #[.slice a1 xs.length c1, .slice a2 xs.length c2] w fun e w' => e = .returned (.bool true) ∧ Below w.heap.size w w' := by
  have HA := Lib.hid hA
  have HB := Lib.hid hB
  clear hA hB
  go_enter Tryz.func11, Tryz.ntmps11
  go_wp2
  go_loopw [13] (fun v wr => ∃ j : Nat, j ≤ xs.length ∧ v = .int .i64 j ∧ Hid (Below w.heap.size w wr)) (fun v _ => xs.length - (intOf v).toNat)
  case atStart => exact ⟨0, by omega, rfl, Lib.hid (Below.refl _ _)⟩
  case round =>
    obtain ⟨j, hj, rfl, HBW⟩ := hrel
    by_cases hlt : j < xs.length
    · obtain ⟨g1, o1, rfl, hg1, hat1⟩ := rdf_at2 (HA.out.go HBW.out) (by omega)
      obtain ⟨g2, o2, rfl, hg2, hat2⟩ := rdf_at2 (HB.out.go HBW.out) (by omega)
      obtain ⟨p0, p1⟩ := hat1 j hlt
      obtain ⟨q0, q1⟩ := hat2 j hlt
      have hj0 : (0 : Int) ≤ (j : Int) := by omega
      have hjl : (j : Int) < (xs.length : Int) := by omega
      have hN := fun W => neqR xs[j].1 xs[j].2 xs[j].1 xs[j].2 W
      rw [decide_eq_true (⟨rfl, rfl⟩ : xs[j].1.data.toList = xs[j].1.data.toList ∧ xs[j].2.data.toList = xs[j].2.data.toList)] at hN
      clear hat1 hat2
      revert p0 p1 q0 q1 hN
      generalize xs[j].1 = xa
      generalize xs[j].2 = xb
      intro p0 p1 q0 q1 hN
      go_wp2_with fail
      go_quiet (fail)
      go_wp2
      go_roundw
      case rel => exact ⟨j + 1, by omega, by go_num, Lib.hid (HBW.out.trans ((bdrN wr _).mono HBW.out.size))⟩
      case measure => simp [intOf]; omega
    · go_wp2
      go_ret
      exact ⟨rfl, HBW.out⟩
end Go.Proofs.YtjgbfpkjkglfnaaGreatDoor.Lb
namespace Go.Proofs.YtjgbfpkjkglfnaaGreatDoor.Lb
open Go.RowKit Ch Jt
set_option linter.unusedSimpArgs false
set_option linter.unusedVariables false

def cfS (x : FB) (s : ByteArray) : Int := Lib.compareBytes x.1.data.toList s.data.toList
theorem asc_low {gs : List FB} (ha : Asc gs) {s : ByteArray} {h k : Nat} (hh : h < gs.length) (hc : cfS gs[h] s < 0) (hk : k < gs.length) (hkh : k ≤ h) : cfS gs[k] s < 0 := by
  rcases Nat.lt_or_eq_of_le hkh with g | g
  · have h1 : ¬ cfN gs[h] gs[k] < 0 := (List.pairwise_iff_getElem.1 ha) k h hk hh g
    by_cases h2 : cfN gs[k] gs[h] < 0
    · exact cb_trans _ _ _ h2 hc
    · have e := cf_eq h2 h1
      unfold cfS at hc ⊢
      rw [e]; exact hc
  · subst g; exact hc
theorem asc_high {gs : List FB} (ha : Asc gs) {s : ByteArray} {h k : Nat} (hh : h < gs.length) (hc : ¬ cfS gs[h] s < 0) (hk : k < gs.length) (hkh : h ≤ k) : ¬ cfS gs[k] s < 0 := fun h2 => hc (asc_low ha hk h2 hh hkh)
theorem cfS_zero {x : FB} {s : ByteArray} (h : cfS x s = 0) : x.1 = s := ba_ext (cb_zero _ _ h)
theorem cfS_self {x : FB} {s : ByteArray} (h : x.1 = s) : cfS x s = 0 := by unfold cfS; rw [h]; exact cb_self _
theorem fnd_none {gs : List FB} (ha : Asc gs) {s : ByteArray} {i : Nat} (hl : ∀ k (h : k < gs.length), k < i → cfS gs[k] s < 0) (hr : ∀ h : i < gs.length, ¬ cfS gs[i] s < 0 ∧ cfS gs[i] s ≠ 0) : ∀ x ∈ gs, x.1 ≠ s := fun x hx e => by
  obtain ⟨k, hk, rfl⟩ := List.mem_iff_getElem.1 hx
  have hz := cfS_self e
  rcases Nat.lt_trichotomy k i with h | h | h
  · have := hl k hk h; omega
  · subst h; exact (hr hk).2 hz
  · have hi : i < gs.length := by omega
    have h1 : ¬ cfN gs[k] gs[i] < 0 := (List.pairwise_iff_getElem.1 ha) i k hi hk h
    have h2 : cfN gs[k] gs[i] = - cfS gs[i] s := by unfold cfN cfS; rw [e]; exact cb_anti _ _
    have := hr hi
    omega
/-- the place of a name: how many stand ahead of it -/
def lowN (gs : List FB) (s : ByteArray) : Nat := (gs.takeWhile fun x => decide (cfS x s < 0)).length
def BinQ (gs : List FB) (s : ByteArray) (w : World) (e : Ending) (w' : World) : Prop := ∃ (i : Nat) (b : Bool), e = .returned (.tuple #[.int .i64 i, .bool b]) ∧ (b = true → ∃ h : i < gs.length, gs[i].1 = s) ∧ (b = false → ∀ x ∈ gs, x.1 ≠ s) ∧ Below w.heap.size w w'
theorem binq_no {gs : List FB} {s : ByteArray} {w w' : World} (i : Nat) (h : ∀ x ∈ gs, x.1 ≠ s) (hb : Below w.heap.size w w') : BinQ gs s w (.returned (.tuple #[.int .i64 i, .bool false])) w' := ⟨i, false, rfl, fun h => absurd h (by decide), fun _ => h, hb⟩
theorem binq_d {gs : List FB} {s : ByteArray} {w w' : World} (i : Nat) (r : Int) (hy : r = 0 → ∃ h : i < gs.length, gs[i].1 = s) (hn : r ≠ 0 → ∀ x ∈ gs, x.1 ≠ s) (hb : Below w.heap.size w w') : BinQ gs s w (.returned (.tuple #[.int .i64 i, .bool (r == 0)])) w' := ⟨i, _, rfl, fun h => hy (by simpa using h), fun h => hn (by simpa using h), hb⟩
end Go.Proofs.YtjgbfpkjkglfnaaGreatDoor.Lb
namespace Go.Proofs.YtjgbfpkjkglfnaaGreatDoor.Lb
open Go.RowKit Ch Jt
set_option linter.unusedSimpArgs false
set_option linter.unusedVariables false

/-- texts that can be read -/
def RdS (v : Value) (ss : List ByteArray) (w : World) : Prop := ∃ ao cap, v = .slice ao ss.length cap ∧ (0 < ss.length → ∃ g off, ao = some ⟨g, off, none⟩ ∧ g < w.heap.size ∧ ∀ i (hi : i < ss.length), w.cell? ⟨g, off + i, none⟩ = some (.string ss[i]))
theorem RdS.go {v : Value} {ss : List ByteArray} {w W : World} (h : RdS v ss w) (hb : Below w.heap.size w W) : RdS v ss W := by
  obtain ⟨ao, cap, rfl, h⟩ := h
  refine ⟨ao, cap, rfl, fun h0 => ?_⟩
  obtain ⟨g, off, rfl, hg, hc⟩ := h h0
  exact ⟨g, off, rfl, Nat.lt_of_lt_of_le hg hb.size, fun i hi => (hb.cell (p := ⟨g, off + i, none⟩) hg).trans (hc i hi)⟩
theorem rds_at {ao : Option Addr} {cap n : Nat} {ss : List ByteArray} {w : World} (h : RdS (.slice ao n cap) ss w) (h0 : 0 < ss.length) : ∃ g off, ao = some ⟨g, off, none⟩ ∧ g < w.heap.size ∧ ∀ i (hi : i < ss.length), w.cell? ⟨g, off + i, none⟩ = some (.string ss[i]) := by
  obtain ⟨ao', cp, e, hh⟩ := h
  injection e with ea eb ec
  subst ea
  exact hh h0
def inN (L : List ByteArray) (s : ByteArray) : Bool := L.any fun y => decide (y = s)
theorem inN_snoc (L : List ByteArray) (y s : ByteArray) : inN (L ++ [y]) s = (inN L s || decide (y = s)) := by unfold inN; rw [List.any_append]; simp
/-- which pairs have one of these names -/
def pkV (gs : List FB) (L : List ByteArray) : List Value := gs.map fun x => .bool (inN L x.1)
theorem pk_len (gs : List FB) (L : List ByteArray) : (pkV gs L).length = gs.length := by unfold pkV; simp
theorem pk_at {gs : List FB} {L : List ByteArray} {k : Nat} (hk : k < gs.length) : (pkV gs L)[k]? = some (.bool (inN L gs[k].1)) := by unfold pkV; simp [hk]
theorem pk_nil (gs : List FB) : pkV gs [] = List.replicate gs.length (.bool false) := by
  unfold pkV
  apply List.ext_getElem
  · simp
  · intro i h1 h2; simp [inN]
theorem pk_no {gs : List FB} {L : List ByteArray} {s : ByteArray} (h : ∀ x ∈ gs, x.1 ≠ s) : pkV gs (L ++ [s]) = pkV gs L := by
  unfold pkV
  apply List.map_congr_left
  intro x hx
  rw [inN_snoc, decide_eq_false (fun e => h x hx e.symm), Bool.or_false]
theorem pk_yes {gs : List FB} {L : List ByteArray} {s : ByteArray} {i : Nat} (ho : Onc gs) (hi : i < gs.length) (h : gs[i].1 = s) : pkV gs (L ++ [s]) = (pkV gs L).set i (.bool true) := by
  apply List.ext_getElem
  · simp [pkV]
  · intro k h1 h2
    have hk : k < gs.length := by simpa [pkV] using h1
    rw [List.getElem_set]
    by_cases hik : i = k
    · subst hik
      rw [if_pos rfl]
      simp [pkV, inN_snoc, h]
    · rw [if_neg hik]
      have hne : gs[k].1 ≠ s := fun e => by
        have he := onc_inj ho (List.getElem_mem hk) (List.getElem_mem hi) (e.trans h.symm)
        unfold Onc at ho
        rw [List.nodup_iff_pairwise_ne, List.pairwise_map, List.pairwise_iff_getElem] at ho
        rcases Nat.lt_or_gt_of_ne hik with g | g
        · exact ho i k hi hk g (h.trans e.symm)
        · exact ho k i hk hi g (e.trans h.symm)
      have hne2 : ¬ s = gs[k].1 := fun e => hne e.symm
      simp [pkV, inN_snoc, hne2]
theorem made_b (n : Nat) : (madeCells #[Value.bool false] n).toList = List.replicate n (.bool false) := by
  unfold madeCells
  apply List.ext_getElem
  · simp
  · intro i h1 h2
    have hm : i % 1 = 0 := Nat.mod_one i
    simp [hm]
theorem pck_snoc {gs : List FB} {L : List ByteArray} {k : Nat} (hk : k < gs.length) : (gs.take (k + 1)).filter (fun x => inN L x.1) = (gs.take k).filter (fun x => inN L x.1) ++ (if inN L gs[k].1 = true then [gs[k]] else []) := by
  rw [List.take_succ_eq_append_getElem hk, List.filter_append]
  by_cases h : inN L gs[k].1 = true
  · simp [h]
  · simp [h]
theorem own_pl {T : TypeId} {B k n m : Nat} {ao : Option Addr} {cap : Nat} {xs : List Value} {w : World} (h : w.ownsRow B T k (.slice ao m cap) n xs) : Pl ao := by
  rcases h.2 with ⟨h, _⟩ | ⟨g, cap', cur, h, _⟩
  · injection h with h; exact .inl h
  · injection h with h; exact .inr ⟨g, h⟩
theorem OwF.pl {T : TypeId} {B m : Nat} {ao : Option Addr} {cap : Nat} {fs : List FB} {w : World} (h : OwF T B (.slice ao m cap) fs w) : Pl ao := own_pl h
theorem infoBo : (Tryz.prog.info? 4).map (fun i => (i.zero, i.size, i.bytes)) = some (some (.bool false), 1, 1) := by kernel_rfl
/-- what lies while pairs are picked: the set's box, the answer's, the row of which are picked -/
def PK (w : World) (gs : List FB) (ao : Option Addr) (cap : Nat) (L : List ByteArray) (V : World) : Prop := Below w.heap.size w V ∧ V.heap[w.heap.size]? = some (.cells #[.slice ao gs.length cap] 27 (0, 0)) ∧ V.heap[w.heap.size + 1]? = some (.cells #[.slice none 0 0] 27 (0, 0)) ∧ V.heap[w.heap.size + 1 + 1]? = some (.cells (pkV gs L).toArray 4 (0, 0))
theorem PK.go {w : World} {gs : List FB} {ao : Option Addr} {cap : Nat} {L : List ByteArray} {V V' : World} (h : PK w gs ao cap L V) (hb : Below V.heap.size V V') : PK w gs ao cap L V' :=
  ⟨h.1.trans (hb.mono h.1.size), (hb.block _ (Array.getElem?_eq_some_iff.1 h.2.1).1).trans h.2.1, (hb.block _ (Array.getElem?_eq_some_iff.1 h.2.2.1).1).trans h.2.2.1, (hb.block _ (Array.getElem?_eq_some_iff.1 h.2.2.2).1).trans h.2.2.2⟩
theorem PK.b {w : World} {gs : List FB} {ao : Option Addr} {cap : Nat} {L : List ByteArray} {V : World} (h : PK w gs ao cap L V) : Below w.heap.size w V := h.1
theorem PK.s {w : World} {gs : List FB} {ao : Option Addr} {cap : Nat} {L : List ByteArray} {V : World} (h : PK w gs ao cap L V) : V.cell? ⟨w.heap.size, 0, none⟩ = some (.slice ao gs.length cap) := cell_of_row _ _ 0 _ _ _ h.2.1
theorem PK.p {w : World} {gs : List FB} {ao : Option Addr} {cap : Nat} {L : List ByteArray} {V : World} (h : PK w gs ao cap L V) {i : Nat} (hi : i < gs.length) : V.cell? ⟨w.heap.size + 1 + 1, i, none⟩ = some (.bool (inN L gs[i].1)) ∧ V.frozen? ⟨w.heap.size + 1 + 1, i, none⟩ = false := by
  refine ⟨?_, frz h.2.2.2 i⟩
  rw [cell_of_row _ _ i _ _ _ h.2.2.2, List.getElem?_toArray]
  exact pk_at hi
theorem PK.set {w : World} {gs : List FB} {ao : Option Addr} {cap : Nat} {L : List ByteArray} {s : ByteArray} {V : World} (h : PK w gs ao cap L V) {i : Nat} (ho : Onc gs) (hi : i < gs.length) (he : gs[i].1 = s) : PK w gs ao cap (L ++ [s]) (V.setCell ⟨w.heap.size + 1 + 1, i, none⟩ (.bool true)) := by
  have e := setCell_eq_setRow V (w.heap.size + 1 + 1) i _ _ _ (.bool true) h.2.2.2
  rw [e]
  refine ⟨h.1.trans ⟨rfl, rfl, rfl, by simp [World.setRow], fun k hk => setRow_other V _ k _ (by omega)⟩, (setRow_other V _ _ _ (by omega)).trans h.2.1, (setRow_other V _ _ _ (by omega)).trans h.2.2.1, ?_⟩
  rw [setRow_heap V _ _ _ _ _ h.2.2.2, pk_yes ho hi he]
  simp
theorem PK.new {w w2 : World} {gs : List FB} {ao : Option Addr} {cap : Nat} (hown : w2.ownsRow w.heap.size 4 1 (.slice (some ⟨w.heap.size + 1 + 1, 0, none⟩) gs.length gs.length) gs.length (madeCells #[.bool false] gs.length).toList) (hg : ((w.alloc (.cells #[.slice ao gs.length cap] 27)).alloc (.cells #[.slice none 0 0] 27)).grownBy w2 none) : PK w gs ao cap [] w2 := by
  have hb0 := (Below.refl w.heap.size w).alloc (Nat.le_refl _) (.cells #[.slice ao gs.length cap] 27)
  have hb1 := hb0.alloc hb0.size (.cells #[.slice none 0 0] 27)
  have z : ((w.alloc (.cells #[.slice ao gs.length cap] 27)).alloc (.cells #[.slice none 0 0] 27)).heap.size = w.heap.size + 1 + 1 := by simp
  refine ⟨hb1.grown hg hb1.size (fun j hj => by cases hj), ?_, ?_, ?_⟩
  · rw [hg.block _ (by rw [z]; omega) (by simp)]
    have hb := (Below.refl (w.heap.size + 1) (w.alloc (.cells #[.slice ao gs.length cap] 27))).alloc (by simp) (.cells #[.slice none 0 0] 27)
    exact (hb.block _ (by omega)).trans (heap_alloc_new w _)
  · rw [hg.block _ (by rw [z]; omega) (by simp)]
    have := heap_alloc_new (w.alloc (.cells #[.slice ao gs.length cap] 27)) (.cells #[.slice none 0 0] 27)
    simpa using this
  · rcases hown.2 with ⟨h, _⟩ | ⟨g, cp, cur, hv, _, hgh, _, _, hz, htk⟩
    · cases h
    · injection hv with h1 h2 h3
      injection h1 with h1
      injection h1 with h1
      subst h1 h3
      rw [made_b, ← pk_nil, Nat.mul_one] at htk
      have hl : cur.toList = pkV gs [] := by rw [← htk, List.take_of_length_le (by rw [Array.length_toList, hz]; omega)]
      rw [hgh, ← hl]
/-- the pairs of these names -/
def pckL (gs : List FB) (L : List ByteArray) : List FB := gs.filter fun x => inN L x.1
end Go.Proofs.YtjgbfpkjkglfnaaGreatDoor.Lb
namespace Go.Proofs.YtjgbfpkjkglfnaaGreatDoor.Lb
open Go.RowKit Ch Jt Go.ChangeShapes Go.WideShapes
set_option linter.unusedSimpArgs false
set_option linter.unusedVariables false

def IsStrs (w : World) (a : Option Addr) (len : Nat) (ts : List ByteArray) : Prop := ts.length = len ∧ len ≤ maxLen ∧ (∀ t ∈ ts, t.size ≤ maxLen) ∧
  (ts ≠ [] → ∃ b off, a = some ⟨b, off, none⟩ ∧ b < w.heap.size ∧ ∀ i (hi : i < ts.length), w.cell? ⟨b, off + i, none⟩ = some (.string ts[i]))
theorem IsStrs.rd {w : World} {a : Option Addr} {cap : Nat} {ts : List ByteArray} (h : IsStrs w a ts.length ts) : RdS (.slice a ts.length cap) ts w :=
  ⟨a, cap, rfl, fun h0 => h.2.2.2 (by intro e; rw [e] at h0; exact absurd h0 (Nat.lt_irrefl _))⟩
theorem ofz_cases (fs : List FB) : (ofZ fs = 0 ∧ Asc (ofA fs) ∧ Onc (ofA fs)) ∨ ((ofZ fs = 3 ∨ ofZ fs = 10) ∧ ofA fs = []) := by
  unfold ofZ ofA
  by_cases hb : fs.any badB = true
  · simp [hb]
  · by_cases ho : Onc fs
    · rw [if_neg hb, if_pos ho, if_neg hb, if_pos ho]
      exact .inl ⟨rfl, srt_asc fs, (onc_iff (srt_perm fs)).2 ho⟩
    · simp [hb, ho]
theorem pck_none (gs : List FB) : pckL gs [] = [] := by
  unfold pckL inN
  simp
/-- is it one of the first k names? -/
theorem in_step {ss : List ByteArray} {k : Nat} (hk : k < ss.length) (s : ByteArray) : inN (ss.take (k + 1)) s = (inN (ss.take k) s || decide (ss[k] = s)) := by
  rw [List.take_succ_eq_append_getElem hk, inN_snoc]
end Go.Proofs.YtjgbfpkjkglfnaaGreatDoor.Lb
namespace Go.Proofs.YtjgbfpkjkglfnaaGreatDoor.Lb
open Go.RowKit Ch Jt
set_option linter.unusedSimpArgs false
set_option linter.unusedVariables false

theorem int_beq (a b : Nat) : ((a : Int) == (b : Int)) = decide (a = b) := by
  by_cases h : a = b
  · subst h; simp
  · rw [decide_eq_false h, beq_eq_false_iff_ne]; omega
def okA (i : Nat) (c : Int) : Bool := letB c || decide (c = 95) || (decide (i ≠ 0) && digB c)
theorem nam_iff (s : ByteArray) : namB s.data.toList = true ↔ 0 < s.size ∧ ∀ i (h : i < s.size), okA i (s[i].toNat : Int) = true := by
  constructor
  · intro h
    by_cases h0 : 0 < s.size
    · refine ⟨h0, fun i hi => ?_⟩
      rw [(nam_ne h0).1] at h
      simp only [Bool.and_eq_true, Bool.not_eq_true'] at h
      have h2 : inB (s[i].toNat : Int) = true := by
        have := h.2
        unfold inBL at this
        rw [List.all_eq_true] at this
        exact this s[i] (by rw [← gdat s i hi]; exact List.getElem_mem _)
      unfold inB at h2
      unfold okA
      by_cases hi0 : i = 0
      · subst hi0
        rw [h.1] at h2 ⊢
        simpa using h2
      · cases hl : letB (s[i].toNat : Int) <;> cases hd : digB (s[i].toNat : Int) <;> simp_all
    · rw [emp h0] at h; cases h
  · rintro ⟨h0, h⟩
    rw [(nam_ne h0).1]
    have h1 := h 0 h0
    have hd : digB (s[0].toNat : Int) = false := by
      unfold okA at h1
      simp only [ne_eq, not_true_eq_false, decide_false, Bool.false_and, Bool.or_false] at h1
      unfold digB
      rw [decide_eq_false_iff_not]
      intro hh
      unfold letB at h1
      rw [Bool.or_eq_true, decide_eq_true_eq, decide_eq_true_eq] at h1
      omega
    rw [hd]
    simp only [Bool.not_false, Bool.true_and]
    unfold inBL
    rw [List.all_eq_true]
    intro c hc
    obtain ⟨i, hi, rfl⟩ := List.mem_iff_getElem.1 hc
    have hi' : i < s.size := by rw [Lib.size_eq]; exact hi
    have h2 := h i hi'
    rw [gdat s i hi']
    unfold okA at h2
    unfold inB
    cases hl : letB (s[i].toNat : Int) <;> cases hdd : digB (s[i].toNat : Int) <;> simp_all
set_option maxRecDepth 100000 in
set_option maxHeartbeats 4000000 in
theorem NameR_c (s : ByteArray) (w : World) (hs : s.size ≤ 9223372036854775807) : Calls Tryz.prog 29 #[.string s] w fun e w' => e = .returned (.bool (namB s.data.toList)) ∧ w = w' := by
  have HI := Lib.hid (nam_iff s)
  generalize namB s.data.toList = nb at HI ⊢
  go_enter Tryz.func29, Tryz.ntmps29
  go_wp2
  go_loop [3] (fun i => ∃ k : Nat, k ≤ s.size ∧ i = .int .i64 k ∧ Hid (∀ i (h : i < s.size), i < k → okA i (s[i].toNat : Int) = true)) (fun i => s.size - (intOf i).toNat)
  case atStart => exact ⟨0, by omega, rfl, Lib.hid (fun i _ h => absurd h (Nat.not_lt_zero _))⟩
  case round =>
    obtain ⟨k, hk, rfl, HA⟩ := hrel
    by_cases hlt : k < s.size
    · have h0 : 0 ≤ ((s[k].toNat : Nat) : Int) := by omega
      have h1 : ((s[k].toNat : Nat) : Int) ≤ 255 := by have := s[k].toNat_lt; omega
      have hk0 : (0 : Int) ≤ (k : Int) := by omega
      have HL := Lib.hid (fun W => let_r (s[k].toNat : Int) W h0 h1)
      have HD := Lib.hid (fun W => dig_r (s[k].toNat : Int) W h0 h1)
      have HS : Hid (okA k (s[k].toNat : Int) = true → ∀ i (h : i < s.size), i < k + 1 → okA i (s[i].toNat : Int) = true) := fun hh i hi hlt2 => by
        rcases Nat.lt_succ_iff_lt_or_eq.1 hlt2 with g | g
        · exact HA.out i hi g
        · subst g; exact hh
      have HF : Hid (okA k (s[k].toNat : Int) = false → nb = false) := fun hh => by
        cases hn : nb with
        | false => rfl
        | true => rw [(HI.out.1 hn).2 k hlt] at hh; cases hh
      unfold okA at HS HF
      revert HL HD HS HF h0 h1
      generalize hc : s[k] = ch
      intro h0 h1 HL HD HS HF
      cases hl : letB (ch.toNat : Int) with
      | true =>
        rw [hl] at HL HS
        have HS2 := Lib.hid (HS.out (by simp))
        clear hl HS HF HD
        go_wp2_with (go_at_call 47; refine (HL.out _).mono ?_; rintro e w' ⟨rfl, hw⟩; rw [← hw]; clear hw)
        go_round
        case rel => exact ⟨k + 1, by omega, by go_num, HS2⟩
        case measure => simp [intOf]; omega
      | false =>
        rw [hl] at HL HS HF
        by_cases h95 : (ch.toNat : Int) = 95
        · have HS2 := Lib.hid (HS.out (by simp [h95]))
          have hq : (((ch.toNat : Nat) : Int) == 95) = true := by rw [h95]; rfl
          have hq2 : (((ch.toNat : Nat) : Int) != 95) = false := by rw [h95]; rfl
          clear hl HS HF HD h95
          go_wp2_with (go_at_call 47; refine (HL.out _).mono ?_; rintro e w' ⟨rfl, hw⟩; rw [← hw]; clear hw)
          go_round
          case rel => exact ⟨k + 1, by omega, by go_num, HS2⟩
          case measure => simp [intOf]; omega
        · have hq : (((ch.toNat : Nat) : Int) == 95) = false := beq_eq_false_iff_ne.2 h95
          have hq2 : (((ch.toNat : Nat) : Int) != 95) = true := by rw [bne, hq]; rfl
          by_cases hz : k = 0
          · have HF2 := Lib.hid (HF.out (by simp [h95, hz]))
            have hz' : (k : Int) = 0 := by omega
            have hz2 : ((k : Int) == 0) = true := by simp [hz]
            clear hz'
            clear hl HS HF HD h95 hz
            go_wp2_with (go_at_call 47; refine (HL.out _).mono ?_; rintro e w' ⟨rfl, hw⟩; rw [← hw]; clear hw)
            go_ret
            exact ⟨Ch.ret_bool HF2.out.symm, rfl⟩
          · have hz' : ¬ (k : Int) = 0 := by omega
            have hz2 : ((k : Int) == 0) = false := beq_eq_false_iff_ne.2 hz'
            cases hd : digB (ch.toNat : Int) with
            | true =>
              rw [hd] at HD HS
              have HS2 := Lib.hid (HS.out (by simp [hz]))
              clear hl hd HS HF h95 hz
              go_wp2_with (first
                | (go_at_call 47; refine (HL.out _).mono ?_; rintro e w' ⟨rfl, hw⟩; rw [← hw]; clear hw)
                | (go_at_call 48; refine (HD.out _).mono ?_; rintro e w' ⟨rfl, hw⟩; rw [← hw]; clear hw))
              go_round
              case rel => exact ⟨k + 1, by omega, by go_num, HS2⟩
              case measure => simp [intOf]; omega
            | false =>
              rw [hd] at HD HF
              have HF2 := Lib.hid (HF.out (by simp [h95]))
              clear hl hd HS HF h95 hz
              go_wp2_with (first
                | (go_at_call 47; refine (HL.out _).mono ?_; rintro e w' ⟨rfl, hw⟩; rw [← hw]; clear hw)
                | (go_at_call 48; refine (HD.out _).mono ?_; rintro e w' ⟨rfl, hw⟩; rw [← hw]; clear hw))
              go_ret
              exact ⟨Ch.ret_bool HF2.out.symm, rfl⟩
    · by_cases hz : 0 < s.size
      · have HT : Hid (nb = true) := HI.out.2 ⟨hz, fun i h => HA.out i h (by omega)⟩
        have he := (nam_ne hz).2.1
        go_wp2
        go_ret
        exact ⟨Ch.ret_bool (by first | (rw [HT.out]; done) | (rw [HT.out]; simp)), rfl⟩
      · have hs0 : s = ⟨#[]⟩ := emp hz
        have HT : Hid (nb = false) := by
          show _ = _
          cases hn : nb with
          | false => rfl
          | true => exact absurd (HI.out.1 hn).1 hz
        have he : s.toList.isEmpty = true := by rw [hs0, Lib.toList_data]; rfl
        clear hs0
        go_wp2
        go_ret
        exact ⟨Ch.ret_bool (by first | (rw [HT.out]; done) | (rw [HT.out]; simp)), rfl⟩
set_option maxRecDepth 100000 in
set_option maxHeartbeats 2000000 in
theorem valR_c (s : ByteArray) (w : World) (hs : s.size ≤ 1000) : Calls Tryz.prog 30 #[.string s] w fun e w' => e = .returned (.bool (valB s.data.toList)) ∧ Below w.heap.size w w' := by
  have HW := Lib.hid (Ut.walk_r s w hs)
  have HV : Hid (vldB s.data.toList = decide ((Ut.walkL (Ut.nums s)).2 = s.size)) := by
    show vldB s.data.toList = _
    unfold vldB
    rw [Lib.size_eq]; rfl
  by_cases h0 : 0 < s.size
  · obtain ⟨_, he, hn⟩ := nam_ne h0
    have e : valB s.data.toList = vldB s.data.toList := by unfold valB; rw [hn]; rfl
    rw [e, HV.out]
    clear e hn HV
    unfold Ut.tup2 at HW
    generalize (Ut.walkL (Ut.nums s)).1 = n1 at HW
    generalize (Ut.walkL (Ut.nums s)).2 = n2 at HW ⊢
    go_enter Tryz.func30, Tryz.ntmps30
    go_wp2_with (go_at_call 49; refine HW.out.mono ?_; rintro e w' ⟨rfl, hb⟩; have HB := Lib.hid hb; clear hb)
    go_ret
    exact ⟨Ch.ret_bool (int_beq _ _), HB.out⟩
  · obtain rfl := emp h0
    show Calls _ _ _ _ fun e w' => e = .returned (.bool false) ∧ _
    clear h0 hs HV
    unfold Ut.tup2 at HW
    go_enter Tryz.func30, Tryz.ntmps30
    go_wp2_with (go_at_call 49; refine HW.out.mono ?_; rintro e w' ⟨rfl, hb⟩; have HB := Lib.hid hb; clear hb)
    go_ret
    exact ⟨rfl, HB.out⟩
/-- the value of a name -/
def getL (gs : List FB) (s : ByteArray) : ByteArray := match gs.find? fun x => decide (x.1 = s) with | some x => x.2 | none => ⟨#[]⟩
theorem get_at {gs : List FB} {s : ByteArray} (ho : Onc gs) {i : Nat} (hi : i < gs.length) (h : gs[i].1 = s) : getL gs s = gs[i].2 := by
  unfold getL
  cases hf : gs.find? fun x => decide (x.1 = s) with
  | none => exact absurd (decide_eq_true h) (List.find?_eq_none.1 hf gs[i] (List.getElem_mem hi))
  | some x =>
    have hx := List.mem_of_find?_eq_some hf
    have hp := List.find?_some hf
    rw [decide_eq_true_eq] at hp
    rw [onc_inj ho hx (List.getElem_mem hi) (hp.trans h.symm)]
theorem get_no {gs : List FB} {s : ByteArray} (h : ∀ x ∈ gs, x.1 ≠ s) : getL gs s = ⟨#[]⟩ := by
  unfold getL
  rw [List.find?_eq_none.2 (fun x hx => by simpa using h x hx)]
end Go.Proofs.YtjgbfpkjkglfnaaGreatDoor.Lb
namespace Go.Proofs.YtjgbfpkjkglfnaaGreatDoor.Lb
open Go.RowKit Ch Jt
set_option linter.unusedSimpArgs false
set_option linter.unusedVariables false

theorem bl_iff : ∀ a b : List UInt8, Op.bytesLess a b = decide (Lib.compareBytes a b < 0)
  | [], [] => by simp [Op.bytesLess, Lib.compareBytes]
  | _ :: _, [] => by simp [Op.bytesLess, Lib.compareBytes]
  | [], _ :: _ => by simp [Op.bytesLess, Lib.compareBytes]
  | x :: a, y :: b => by
    unfold Op.bytesLess Lib.compareBytes
    have ih := bl_iff a b
    by_cases h1 : x < y
    · simp [h1]
    · by_cases h2 : y < x
      · have hne : (x == y) = false := by rw [beq_eq_false_iff_ne]; rintro rfl; exact h1 h2
        simp [h1, h2, hne]
      · have he : x = y := by apply UInt8.toNat_inj.1; rw [UInt8.lt_iff_toNat_lt] at *; omega
        subst he
        simp [h1, ih]
/-- how a name stands to another one's -/
theorem les_lt {x p : ByteArray} (h : Lib.compareBytes x.data.toList p.data.toList < 0) : Op.bytesLess p.toList x.toList = false ∧ (p.toList == x.toList) = false := by
  rw [Lib.toList_data, Lib.toList_data, bl_iff, cb_anti]
  refine ⟨decide_eq_false (by omega), beq_eq_false_iff_ne.2 fun e => ?_⟩
  rw [e, cb_self] at h; omega
theorem les_eq {x p : ByteArray} (h : x = p) : Op.bytesLess p.toList x.toList = false ∧ (p.toList == x.toList) = true := by
  subst h
  rw [Lib.toList_data, bl_iff, cb_self]
  exact ⟨by decide, by simp⟩
theorem les_gt {x p : ByteArray} (h : ¬ Lib.compareBytes x.data.toList p.data.toList < 0) (hne : x ≠ p) : Op.bytesLess p.toList x.toList = true ∧ (p.toList == x.toList) = false := by
  rw [Lib.toList_data, Lib.toList_data, bl_iff, cb_anti]
  have h0 : Lib.compareBytes x.data.toList p.data.toList ≠ 0 := fun e => hne (ba_ext (cb_zero _ _ e))
  exact ⟨decide_eq_true (by omega), beq_eq_false_iff_ne.2 fun e => hne (ba_ext e.symm)⟩
def insK (o : List FB) (p : FB) (k : Nat) : List FB := o.take k ++ p :: o.drop k
theorem ins_perm (o : List FB) (p : FB) (k : Nat) : (insK o p k).Perm (o ++ [p]) := by
  unfold insK
  refine List.perm_middle.trans ?_
  rw [List.take_append_drop]
  exact (List.perm_append_singleton p o).symm
theorem ins_asc {o : List FB} {p : FB} {k : Nat} (ha : Asc o) (hk : k ≤ o.length) (hl : ∀ (h : 0 < k), cfN (o[k - 1]'(by omega)) p < 0) (hr : ∀ i (h : i < o.length), k ≤ i → ¬ cfN o[i] p < 0) : Asc (insK o p k) := by
  unfold Asc insK
  rw [List.pairwise_append]
  have hp := List.pairwise_iff_getElem.1 ha
  refine ⟨List.Pairwise.sublist (List.take_sublist _ _) ha, ?_, fun x hx y hy => ?_⟩
  · rw [List.pairwise_cons]
    refine ⟨fun y hy => ?_, List.Pairwise.sublist (List.drop_sublist _ _) ha⟩
    obtain ⟨i, hi, rfl⟩ := List.mem_iff_getElem.1 hy
    rw [List.getElem_drop]
    exact hr _ _ (by omega)
  · obtain ⟨i, hi, rfl⟩ := List.mem_iff_getElem.1 hx
    rw [List.length_take] at hi
    rw [List.getElem_take]
    have h1 : cfN o[i] p < 0 := by
      have hk0 : 0 < k := by omega
      have h := hl hk0
      rcases Nat.lt_or_eq_of_le (show i ≤ k - 1 by omega) with g | g
      · have h2 := hp i (k - 1) (by omega) (by omega) g
        by_cases h3 : cfN o[i] o[k - 1] < 0
        · exact cb_trans _ _ _ h3 h
        · have e := cf_eq h3 h2
          unfold cfN at h ⊢
          rw [e]; exact h
      · subst g; exact h
    rcases List.mem_cons.1 hy with rfl | hy
    · rw [cf_anti]; omega
    · obtain ⟨j, hj, rfl⟩ := List.mem_iff_getElem.1 hy
      rw [List.getElem_drop]
      rw [List.length_drop] at hj
      exact hp i (k + j) (by omega) (by omega) (by omega)
/-- is a pair of that name among those from k on? -/
def twK (o : List FB) (p : FB) (k : Nat) : Bool := (o.drop k).any fun x => decide (x.1 = p.1)
theorem tw_step {o : List FB} {p : FB} {k : Nat} (hk : k < o.length) : twK o p k = (twK o p (k + 1) || decide (o[k].1 = p.1)) := by
  unfold twK
  rw [List.drop_eq_getElem_cons hk, List.any_cons, Bool.or_comm]
theorem tw_end (o : List FB) (p : FB) : twK o p o.length = false := by unfold twK; rw [List.drop_length]; rfl
theorem onc_ins {o : List FB} {p : FB} {k : Nat} (hk : k ≤ o.length) (hl : ∀ i (h : i < o.length), i < k → o[i].1 ≠ p.1) : Onc (insK o p k) ↔ Onc o ∧ twK o p k = false := by
  have h1 : Onc (insK o p k) ↔ Onc (p :: o) := onc_iff ((ins_perm o p k).trans (List.perm_append_singleton p o))
  rw [h1]
  unfold Onc
  rw [List.map_cons, List.nodup_cons]
  constructor
  · rintro ⟨a, b⟩
    refine ⟨b, ?_⟩
    unfold twK
    rw [List.any_eq_false]
    intro x hx
    simp only [decide_eq_true_eq]
    intro e
    exact a (e ▸ List.mem_map_of_mem (List.mem_of_mem_drop hx))
  · rintro ⟨b, a⟩
    refine ⟨fun hm => ?_, b⟩
    obtain ⟨x, hx, e⟩ := List.mem_map.1 hm
    obtain ⟨i, hi, rfl⟩ := List.mem_iff_getElem.1 hx
    by_cases hik : i < k
    · exact hl i hi hik e
    · unfold twK at a
      rw [List.any_eq_false] at a
      have hd : o[i] ∈ o.drop k := by
        rw [List.mem_iff_getElem]
        refine ⟨i - k, by rw [List.length_drop]; omega, ?_⟩
        rw [List.getElem_drop]
        congr 1
        omega
      exact a _ hd (by simpa using e)
end Go.Proofs.YtjgbfpkjkglfnaaGreatDoor.Lb
namespace Go.Proofs.YtjgbfpkjkglfnaaGreatDoor.Lb
open Go.RowKit Ch Jt
set_option linter.unusedSimpArgs false
set_option linter.unusedVariables false

def OfW (fs : List FB) (w : World) (e : Ending) (w' : World) : Prop := ∃ v, e = .returned (.tuple #[v, .int .i64 (ofZ fs)]) ∧ OwF 43 w.heap.size v (ofA fs) w' ∧ Below w.heap.size w w'
theorem ofw_bad {fs : List FB} {w w' : World} (h : fs.any badB = true) (hb : Below w.heap.size w w') : OfW fs w (.returned (.tuple #[.slice none 0 0, .int .i64 3])) w' := by
  have e1 : ofA fs = [] := by unfold ofA; rw [if_pos h]
  have e2 : ofZ fs = 3 := by unfold ofZ; rw [if_pos h]
  unfold OfW; rw [e1, e2]
  exact ⟨_, rfl, World.ownsRow_nil _ _ _ _, hb⟩
theorem ofw_dup {fs : List FB} {w w' : World} (h : fs.any badB = false) (h2 : ¬ Onc fs) (hb : Below w.heap.size w w') : OfW fs w (.returned (.tuple #[.slice none 0 0, .int .i64 10])) w' := by
  have e1 : ofA fs = [] := by unfold ofA; rw [if_neg (by rw [h]; decide), if_neg h2]
  have e2 : ofZ fs = 10 := by unfold ofZ; rw [if_neg (by rw [h]; decide), if_neg h2]
  unfold OfW; rw [e1, e2]
  exact ⟨_, rfl, World.ownsRow_nil _ _ _ _, hb⟩
theorem ofw_ok {fs os : List FB} {v : Value} {w w' : World} (h : fs.any badB = false) (h2 : Onc fs) (hp : os.Perm fs) (ha : Asc os) (ho : OwF 43 w.heap.size v os w') (hb : Below w.heap.size w w') : OfW fs w (.returned (.tuple #[v, .int .i64 0])) w' := by
  have e1 : ofA fs = srtL fs := by unfold ofA; rw [if_neg (by rw [h]; decide), if_pos h2]
  have e2 : ofZ fs = 0 := by unfold ofZ; rw [if_neg (by rw [h]; decide), if_pos h2]
  obtain rfl := srt_one hp ha h2
  unfold OfW; rw [e1, e2]
  exact ⟨_, rfl, ho, hb⟩
theorem any_no {fs : List FB} (h : ∀ k (hk : k < fs.length), badB fs[k] = false) : fs.any badB = false := by
  rw [List.any_eq_false]
  intro f hf
  obtain ⟨k, hk, rfl⟩ := List.mem_iff_getElem.1 hf
  rw [h k hk]; simp
theorem rd_cells {g off cap n : Nat} {fs : List FB} {w : World} (h : RdF (.slice (some ⟨g, off, none⟩) n cap) fs w) (j : Nat) (v : Value) (hv : (fC fs)[j]? = some v) : w.cell? ((⟨g, off, none⟩ : Addr).add j) = some v := by
  have hj : j < fs.length * 2 := by
    rcases Nat.lt_or_ge j (fs.length * 2) with h | h
    · exact h
    · rw [List.getElem?_eq_none (by rw [fC_len]; exact h)] at hv; cases hv
  obtain ⟨g2, off2, e, _, hat⟩ := rdf_at2 h (by omega)
  injection e with e
  injection e with e1 e2 _
  subst e1 e2
  have ea : (⟨g, off, none⟩ : Addr).add j = ⟨g, off + j, none⟩ := by unfold Addr.add; split <;> simp_all
  rw [ea]
  have hq : j / 2 < fs.length := by omega
  obtain ⟨a0, a1⟩ := fC_at fs (j / 2) hq
  obtain ⟨b0, b1⟩ := hat (j / 2) hq
  rcases Nat.mod_two_eq_zero_or_one j with h | h
  · have ej : j = j / 2 * 2 := by omega
    rw [ej] at hv ⊢
    rw [b0, ← a0, hv]
  · have ej : j = j / 2 * 2 + 1 := by omega
    rw [ej] at hv ⊢
    rw [← Nat.add_assoc, b1, ← a1, hv]
theorem fC_append (a b : List FB) : fC (a ++ b) = fC a ++ fC b := by unfold fC; rw [List.flatMap_append]
/-- the first k of a row -/
theorem rd_first {g cap n : Nat} {fs : List FB} {w : World} (h : RdF (.slice (some ⟨g, 0, none⟩) n cap) fs w) (k : Nat) (j : Nat) (v : Value) (hv : (fC (fs.take k))[j]? = some v) : w.cell? ((⟨g, 0, none⟩ : Addr).add j) = some v := by
  refine rd_cells h j v ?_
  have e : fC fs = fC (fs.take k) ++ fC (fs.drop k) := by rw [← fC_append, List.take_append_drop]
  rw [e, List.getElem?_append_left (List.getElem?_eq_some_iff.1 hv).1]
  exact hv
theorem rd_last {g cap n : Nat} {fs : List FB} {w : World} (h : RdF (.slice (some ⟨g, 0, none⟩) n cap) fs w) {k : Nat} (hk : k ≤ fs.length) (j : Nat) (v : Value) (hv : (fC (fs.drop k))[j]? = some v) : w.cell? ((⟨g, k * 2, none⟩ : Addr).add j) = some v := by
  have e : fC fs = fC (fs.take k) ++ fC (fs.drop k) := by rw [← fC_append, List.take_append_drop]
  have hl : (fC (fs.take k)).length = k * 2 := by rw [fC_len, List.length_take]; omega
  have h2 := rd_cells h (k * 2 + j) v (by rw [e, List.getElem?_append_right (by omega), hl, Nat.add_sub_cancel_left]; exact hv)
  have ea : (⟨g, 0, none⟩ : Addr).add (k * 2 + j) = (⟨g, k * 2, none⟩ : Addr).add j := by unfold Addr.add; split <;> split <;> simp_all <;> omega
  rw [← ea]; exact h2
theorem ins_ok {fs os : List FB} {p : FB} {j k : Nat} {tw tv : Bool} (hk : k ≤ os.length) (HP : os.Perm (fs.take j)) (HPT : fs.take (j + 1) = fs.take j ++ [p]) (HA : Asc os) (HTW : (!decide (Onc os)) = tw) (HTV : (tw || twK os p k) = tv) (HLO : ∀ i (h : i < os.length), i + 1 = k → cfN os[i] p < 0) (HGE : ∀ i (h : i < os.length), k ≤ i → 0 ≤ cfN os[i] p) : (insK os p k).Perm (fs.take (j + 1)) ∧ Asc (insK os p k) ∧ tv = !decide (Onc (insK os p k)) := by
  refine ⟨(ins_perm os p k).trans (by rw [HPT]; exact HP.append_right [p]), ins_asc HA hk (fun h => HLO (k - 1) _ (by omega)) (fun i h hi => by have := HGE i h hi; omega), ?_⟩
  have h2 := onc_ins (p := p) hk (fun i h hi e => by
    have h1 : cfS (os[k - 1]'(by omega)) p.1 < 0 := HLO (k - 1) (by omega) (by omega)
    have h2 := asc_low HA (by omega) h1 h (by omega)
    rw [cfS_self e] at h2
    omega)
  rw [← HTV, ← HTW]
  by_cases h3 : Onc os <;> cases h4 : twK os p k <;> simp [h3, h4, h2]
theorem fC_ins (os : List FB) (p : FB) (k : Nat) : (([] ++ fC (os.take k)) ++ [.string p.1, .string p.2]) ++ fC (os.drop k) = fC (insK os p k) := by
  unfold insK
  rw [fC_append, List.nil_append, List.append_assoc]
  rfl
theorem ins_len (os : List FB) (p : FB) {k : Nat} (hk : k ≤ os.length) : (insK os p k).length = os.length + 1 := by
  rw [(ins_perm os p k).length_eq, List.length_append]; rfl
set_option maxRecDepth 100000 in
set_option maxHeartbeats 16000000 in
theorem OfR_c (ao : Option Addr) (cap : Nat) (fs : List FB) (w : World) (hR : RdF (.slice ao fs.length cap) fs w) (hm : fs.length ≤ 1000) (hs : ∀ f ∈ fs, smallF f) :
    Calls Tryz.prog 14 #[.slice ao fs.length cap] w (OfW fs w) := by
  have HR := Lib.hid hR
  have HS := Lib.hid hs
  clear hR hs
  obtain ⟨ir, hir, hra, hrb, hrc⟩ := info_parts infoR
  go_enter Tryz.func14, Tryz.ntmps14
  go_wp2
  go_loopw [4, 5, 12] (fun ov tv iv wr => ∃ (j : Nat) (os : List FB), j ≤ fs.length ∧ iv = .int .i64 j ∧ tv = .bool (!decide (Onc os)) ∧ Hid (os.Perm (fs.take j)) ∧ Hid (Asc os) ∧ Hid (∀ k (hk : k < fs.length), k < j → badB fs[k] = false) ∧ Hid (OwF 43 w.heap.size ov os wr) ∧ Hid (Below w.heap.size w wr)) (fun _ _ iv _ => fs.length - (intOf iv).toNat)
  case atStart => exact ⟨0, [], by omega, rfl, rfl, Lib.hid (List.Perm.refl _), Lib.hid List.Pairwise.nil, Lib.hid (fun k _ h => absurd h (Nat.not_lt_zero _)), Lib.hid (World.ownsRow_nil _ _ _ _), Lib.hid (Below.refl _ _)⟩
  case round =>
    obtain ⟨j, os, hj, rfl, rfl, HP, HA, HN, HO, HB⟩ := hrel
    obtain ⟨aoo, cpo, hv⟩ := own_lenF HO.out
    subst hv
    have HOL : Hid (os.length = j) := by show _ = _; rw [HP.out.length_eq, List.length_take]; omega
    generalize htw : (!decide (Onc os)) = tw
    have HTW := Lib.hid htw
    clear htw
    by_cases hlt : j < fs.length
    · obtain ⟨g, off, rfl, hg, hat⟩ := rdf_at2 (HR.out.go HB.out) (by omega)
      obtain ⟨p0, p1⟩ := hat j hlt
      have hj0 : (0 : Int) ≤ (j : Int) := by omega
      have hjl : (j : Int) < (fs.length : Int) := by omega
      have hgn : g ≠ wr.heap.size := by omega
      have hsm := HS.out _ (List.getElem_mem hlt)
      have HBD : Hid (badB fs[j] = true → fs.any badB = true) := fun h => by rw [List.any_eq_true]; exact ⟨_, List.getElem_mem hlt, h⟩
      have HND : Hid (badB fs[j] = false → ∀ k (hk : k < fs.length), k < j + 1 → badB fs[k] = false) := fun h => any_take hlt HN.out h
      have HPT : Hid (fs.take (j + 1) = fs.take j ++ [fs[j]]) := List.take_succ_eq_append_getElem hlt
      clear hat
      obtain ⟨⟨x, y⟩, hxy⟩ : ∃ f : FB, fs[j] = f := ⟨_, rfl⟩
      rw [hxy] at p0 p1 hsm HBD HND HPT
      simp only at p0 p1
      clear hxy
      have hx : x.size ≤ 1000 := hsm.1
      have hy : y.size ≤ 1000 := hsm.2
      obtain ⟨WX, hWX, hkX, hbX⟩ : ∃ WX, WX = wr.alloc (.cells #[.string x, .string y] 43) ∧ WX.heap[wr.heap.size]? = some (.cells #[.string x, .string y] 43 (0, 0)) ∧ Below wr.heap.size wr WX := ⟨_, rfl, heap_alloc_new wr _, (Below.refl _ _).alloc (Nat.le_refl _) _⟩
      have HWX := Lib.hid hWX
      have HKX := Lib.hid hkX
      have hlx : wr.heap.size < WX.heap.size := (Array.getElem?_eq_some_iff.1 hkX).1
      have HBX : Hid (Below w.heap.size w WX) := HB.out.trans (hbX.mono HB.out.size)
      have HOX := Lib.hid (HO.out.go hbX)
      have HNR := Lib.hid (fun W => NameR_c x W (by omega))
      have HVR := Lib.hid (valR_c y WX hy)
      clear hWX hkX hbX hsm
      unfold badB at HBD HND
      simp only at HBD HND
      cases hn : namB x.data.toList with
      | false =>
        rw [hn] at HNR HBD
        have HBB := Lib.hid (HBD.out (by simp))
        clear hn HBD HND HVR
        go_wp2_with fail
        rw [← HWX.out]
        clear HWX
        refine (HNR.out _).mono ?_
        rintro e w' ⟨rfl, hw⟩
        rw [← hw]
        clear hw
        go_wp2
        go_ret2
        exact ofw_bad HBB.out HBX.out
      | true =>
        rw [hn] at HNR HBD HND
        cases hv : valB y.data.toList with
        | false =>
          rw [hv] at HVR HBD
          have HBB := Lib.hid (HBD.out (by simp))
          clear hn hv HBD HND
          go_wp2_with fail
          rw [← HWX.out]
          clear HWX
          refine (HNR.out _).mono ?_
          rintro e w' ⟨rfl, hw⟩
          rw [← hw]
          clear hw p0 p1
          obtain ⟨_, e1⟩ := cell2 HKX.out
          go_wp2_with fail
          refine HVR.out.mono ?_
          rintro e w4 ⟨rfl, hb4⟩
          have HB4 : Hid (Below w.heap.size w w4) := HBX.out.trans (hb4.mono HBX.out.size)
          clear hb4
          go_wp2
          go_ret2
          exact ofw_bad HBB.out HB4.out
        | true =>
          rw [hv] at HVR HND
          have HNN := Lib.hid (HND.out (by simp))
          clear hn hv HBD HND
          go_wp2_with fail
          rw [← HWX.out]
          clear HWX
          refine (HNR.out _).mono ?_
          rintro e w' ⟨rfl, hw⟩
          rw [← hw]
          clear hw p0 p1
          obtain ⟨_, e1⟩ := cell2 HKX.out
          go_wp2_with fail
          refine HVR.out.mono ?_
          rintro e w4 ⟨rfl, hb4⟩
          have HB4 : Hid (Below w.heap.size w w4) := HBX.out.trans (hb4.mono HBX.out.size)
          have HK4 : Hid (w4.heap[wr.heap.size]? = some (.cells #[.string x, .string y] 43 (0, 0))) := (hb4.block _ hlx).trans HKX.out
          have HO4 := Lib.hid (HOX.out.go hb4)
          have HLW : Hid (WX.heap.size ≤ w4.heap.size) := hb4.size
          clear hb4 HKX HOX HBX e1 HVR HNR
          have HLX := Lib.hid (Nat.lt_of_lt_of_le hlx (HLW.out))
          have hol : os.length ≤ 1000 := by have := HOL.out; omega
          go_wp2
          rcases HO4.out.2 with ⟨hv0, hn0⟩ | ⟨g1, cap1, cur1, hv1, hb1, hg1, hle1, hm1, hs1, ht1⟩
          · injection hv0 with ea eb ec
            subst ea
            subst ec
            have ho0 : os = [] := List.eq_nil_of_length_eq_zero hn0
            subst ho0
            have HJ0 : Hid (j = 0) := HOL.out.symm
            clear eb hn0 hol HO HO4 HOL
            go_loopw [5, 8] (fun tv kv wq => kv = .int .i64 0 ∧ tv = .bool tw ∧ Hid (Below w4.heap.size w4 wq)) (fun _ _ _ => 0)
            case atStart => exact ⟨by simp, rfl, Lib.hid (Below.refl _ _)⟩
            case round =>
              rename World => wq
              obtain ⟨rfl, rfl, HBQ⟩ := hrel
              go_wp2_with fail
              go_quiet (fail)
              have HBD : Hid (Below w4.heap.size w4 (wq.drewN nq)) := HBQ.out.trans ((bdrN wq nq).mono HBQ.out.size)
              generalize wq.drewN nq = wd at HBD ⊢
              have HKW : Hid (wd.heap[wr.heap.size]? = some (.cells #[.string x, .string y] 43 (0, 0))) := (HBD.out.block _ HLX.out).trans HK4.out
              obtain ⟨W1, hW1, hkw1, hbw1, how1⟩ : ∃ W1, W1 = wd.alloc (.cells #[] 43) ∧ Hid (W1.heap[wr.heap.size]? = some (.cells #[.string x, .string y] 43 (0, 0))) ∧ Hid (Below wd.heap.size wd W1) ∧ Hid (W1.ownsRow wd.heap.size 43 2 (.slice (some ⟨wd.heap.size, 0, none⟩) 0 0) 0 []) :=
                have hb := (Below.refl wd.heap.size wd).alloc (Nat.le_refl _) (.cells #[] 43)
                ⟨_, rfl, (hb.block _ (Nat.lt_of_lt_of_le HLX.out HBD.out.size)).trans HKW.out, hb, World.ownsRow_made wd #[] 0 (Nat.le_refl _) (by unfold maxLen; omega) rfl⟩
              have HW1 := Lib.hid hW1
              clear hW1
              obtain ⟨e0, e1⟩ := cell2 hkw1.out
              obtain ⟨W2, hW2, hk2, hb2⟩ : ∃ W2, W2 = W1.alloc (.cells #[.string x, .string y] 43) ∧ W2.heap[W1.heap.size]? = some (.cells #[.string x, .string y] 43 (0, 0)) ∧ Below W1.heap.size W1 W2 := ⟨_, rfl, heap_alloc_new W1 _, (Below.refl _ _).alloc (Nat.le_refl _) _⟩
              have HW2 := Lib.hid hW2
              have HB2 : Hid (Below wd.heap.size wd W2) := hbw1.out.trans (hb2.mono hbw1.out.size)
              have O1 : Hid (W2.ownsRow wd.heap.size 43 2 (.slice (some ⟨wd.heap.size, 0, none⟩) 0 0) 0 []) := World.ownsRow.kept how1.out (row := none) ⟨hb2.os, hb2.tape, hb2.output, hb2.size, fun k hk _ => hb2.block k hk⟩ (by simp [Value.ownBlock])
              have DC2 := Lib.hid (two_cell hk2)
              have M3 : Hid (0 + 1 ≤ maxLen) := by show _ ≤ _; unfold maxLen; omega
              have M5 : Hid (wd.heap.size ≤ W2.heap.size) := HB2.out.size
              clear hW2 hk2 hb2
              go_wp2_with (first | (at_builtin; rw [← HW2.out]; refine wpList_append_own _ rfl _ _ 22 rfl wd.heap.size 43 ir _ 2 32 Tryz.underlying22 hir hra hrb hrc rfl (by decide) _ _ _ rfl O1.out ⟨W1.heap.size, 0, none⟩ 1 1 [.string x, .string y] rfl rfl DC2.out two_ok M3.out (by decide) M5.out ?_) | (at_builtin; rw [← HW1.out]; refine wpList_append_own_none rfl _ _ 22 rfl wd.heap.size 43 ir 2 Tryz.underlying22 hir _ 0 [] rfl how1.out rfl ?_))
              intro v2 V2 hown2 hgrow2 _
              have HB3 : Hid (Below wd.heap.size wd V2) := HB2.out.grown hgrow2 HB2.out.size (fun q hq => by simp [Value.ownBlock] at hq; omega)
              have O2 := Lib.hid hown2
              clear hown2 hgrow2 e0 e1
              go_wp2_with (at_builtin; refine wpList_append_own_none rfl _ _ 22 rfl wd.heap.size 43 ir 2 Tryz.underlying22 hir _ _ _ rfl O2.out rfl ?_)
              have HB4Z : Hid (Below w.heap.size w V2) := HB4.out.trans ((HBD.out.trans (HB3.out.mono HBD.out.size)).mono HB4.out.size)
              have HOZ : Hid (OwF 43 w.heap.size v2 (insK [] (x, y) 0) V2) := own_mono O2.out (Nat.le_trans HB4.out.size HBD.out.size)
              have HI := Lib.hid (ins_ok (k := 0) (tv := tw) (Nat.le_refl _) HP.out HPT.out HA.out HTW.out (show (tw || twK [] (x, y) 0) = tw from Bool.or_false _) (fun i h _ => absurd h (Nat.not_lt_zero _)) (fun i h _ => absurd h (Nat.not_lt_zero _)))
              go_wp2
              go_roundw
              case rel => exact ⟨j + 1, insK [] (x, y) 0, by omega, by go_num, by rw [HI.out.2.2], Lib.hid HI.out.1, Lib.hid HI.out.2.1, HNN, HOZ, HB4Z⟩
              case measure => simp [intOf]; omega
          · injection hv1 with ea eb ec
            subst ea
            subst ec
            have hg1l : g1 < w4.heap.size := (Array.getElem?_eq_some_iff.1 hg1).1
            have HCP : Hid (os.length ≤ cpo) := hle1
            have HRD := Lib.hid (OwF.rd HO4.out)
            clear hb1 hg1 hm1 hs1 ht1 hle1
            go_loopw [5, 8] (fun tv kv wq => ∃ k : Nat, k ≤ os.length ∧ kv = .int .i64 k ∧ tv = .bool (tw || twK os (x, y) k) ∧ Hid (∀ i (h : i < os.length), k ≤ i → 0 ≤ cfN os[i] (x, y)) ∧ Hid (Below w4.heap.size w4 wq)) (fun _ kv _ => (intOf kv).toNat)
            case atStart => exact ⟨os.length, Nat.le_refl _, rfl, by rw [tw_end, Bool.or_false], Lib.hid (fun i h h2 => by omega), Lib.hid (Below.refl _ _)⟩
            case round =>
              rename World => wq
              obtain ⟨k, hk, rfl, rfl, HGE, HBQ⟩ := hrel
              generalize htv : (tw || twK os (x, y) k) = tv
              by_cases hk0 : 0 < k
              case' pos =>
                obtain ⟨m, hmk⟩ : ∃ m, k = m + 1 := ⟨k - 1, by omega⟩
                have hml : m < os.length := by omega
                have hkI : (0 : Int) < (k : Int) := by omega
                have hkw : IntKind.i64.wrap ((k : Int) - 1) = (m : Int) := (IntWalk.i64_in _ (by omega)).trans (by omega)
                have hks : (k : Int) - 1 = (m : Int) := by omega
                have hm0 : (0 : Int) ≤ (m : Int) := by omega
                have hmlI : (m : Int) < (os.length : Int) := by omega
                have HTS : Hid ((tw || twK os (x, y) m) = (tv || decide (os[m].1 = x))) := by show _ = _; rw [tw_step hml, ← hmk, ← htv, Bool.or_assoc]
                obtain ⟨g2, off2, eg, hg2, hat⟩ := rdf_at2 (HRD.out.go HBQ.out) (by omega)
                injection eg with eg
                injection eg with eg1 eg2 _
                subst eg1 eg2
                have p0 := (hat m hml).1
                rw [Nat.zero_add] at p0
                clear hat hg2
                obtain ⟨e0, _⟩ := cell2 ((HBQ.out.block _ HLX.out).trans HK4.out)
                by_cases hlt : cfN os[m] (x, y) < 0
                case' pos =>
                  have HLO : Hid (∀ i (h : i < os.length), i + 1 = k → cfN os[i] (x, y) < 0) := fun i h e => by
                    have e : i = m := by omega
                    subst e; exact hlt
                  obtain ⟨l1, l2⟩ := les_lt (x := os[m].1) (p := x) hlt
                  have HTV := Lib.hid htv
                  clear hlt hmk HTS htv
                  revert p0 l1 l2
                  generalize os[m].1 = a
                  intro p0 l1 l2
                  go_wp2_with fail
                  go_quiet (fail)
                  have HBD : Hid (Below w4.heap.size w4 (wq.drewN nq)) := HBQ.out.trans ((bdrN wq nq).mono HBQ.out.size)
                  generalize wq.drewN nq = wd at HBD ⊢
                  clear e0 p0 l1 l2 hkI hkw hks hm0 hmlI HBQ
                case' neg =>
                  have HGD : Hid (∀ i (h : i < os.length), m ≤ i → 0 ≤ cfN os[i] (x, y)) := fun i h hi => by
                    rcases Nat.lt_or_eq_of_le hi with g | g
                    · exact HGE.out i h (by omega)
                    · subst g; exact Int.not_lt.1 hlt
                  by_cases heq : os[m].1 = x
                  · obtain ⟨l1, l2⟩ := les_eq (x := os[m].1) (p := x) heq
                    rw [decide_eq_true heq, Bool.or_true] at HTS
                    clear hlt hmk htv
                    revert p0 l1 l2
                    generalize os[m].1 = a
                    intro p0 l1 l2
                    go_wp2_with fail
                    go_quiet (fail)
                    have HBD : Hid (Below w4.heap.size w4 (wq.drewN nq)) := HBQ.out.trans ((bdrN wq nq).mono HBQ.out.size)
                    have p1 := (bdrN wq nq).cell (p := ⟨g1, m * 2, none⟩) (by show g1 < _; have := HBQ.out.size; omega)
                    rw [p0] at p1
                    obtain ⟨e1, _⟩ := cell2 ((HBD.out.block _ HLX.out).trans HK4.out)
                    clear e0 p0 HBQ
                    generalize wq.drewN nq = wd at HBD p1 e1 ⊢
                    cases tv with
                    | true =>
                      go_wp2_with fail
                      go_quiet (fail)
                      have HBE : Hid (Below w4.heap.size w4 (wd.drewN nq)) := HBD.out.trans ((bdrN wd nq).mono HBD.out.size)
                      go_wp2
                      go_roundw
                      case rel => exact ⟨m, by omega, by go_num, by rw [HTS.out], HGD, HBE⟩
                      case measure => simp [intOf]; omega
                    | false =>
                      go_wp2_with fail
                      go_quiet (fail)
                      have HBE : Hid (Below w4.heap.size w4 (wd.drewN nq)) := HBD.out.trans ((bdrN wd nq).mono HBD.out.size)
                      go_wp2
                      go_roundw
                      case rel => exact ⟨m, by omega, by go_num, by rw [HTS.out], HGD, HBE⟩
                      case measure => simp [intOf]; omega
                  · obtain ⟨l1, l2⟩ := les_gt (x := os[m].1) (p := x) hlt heq
                    rw [decide_eq_false heq, Bool.or_false] at HTS
                    clear hlt heq hmk htv
                    revert p0 l1 l2
                    generalize os[m].1 = a
                    intro p0 l1 l2
                    go_wp2_with fail
                    go_quiet (fail)
                    have HBD : Hid (Below w4.heap.size w4 (wq.drewN nq)) := HBQ.out.trans ((bdrN wq nq).mono HBQ.out.size)
                    have p1 := (bdrN wq nq).cell (p := ⟨g1, m * 2, none⟩) (by show g1 < _; have := HBQ.out.size; omega)
                    rw [p0] at p1
                    obtain ⟨e1, _⟩ := cell2 ((HBD.out.block _ HLX.out).trans HK4.out)
                    clear e0 p0 HBQ
                    generalize wq.drewN nq = wd at HBD p1 e1 ⊢
                    cases tv with
                    | true =>
                      go_wp2_with fail
                      go_quiet (fail)
                      have HBE : Hid (Below w4.heap.size w4 (wd.drewN nq)) := HBD.out.trans ((bdrN wd nq).mono HBD.out.size)
                      go_wp2
                      go_roundw
                      case rel => exact ⟨m, by omega, by go_num, by rw [HTS.out], HGD, HBE⟩
                      case measure => simp [intOf]; omega
                    | false =>
                      go_wp2_with fail
                      go_quiet (fail)
                      have HBE : Hid (Below w4.heap.size w4 (wd.drewN nq)) := HBD.out.trans ((bdrN wd nq).mono HBD.out.size)
                      go_wp2
                      go_roundw
                      case rel => exact ⟨m, by omega, by go_num, by rw [HTS.out], HGD, HBE⟩
                      case measure => simp [intOf]; omega
              case' neg =>
                have hki : ¬ (0 : Int) < (k : Int) := by omega
                have HLO : Hid (∀ i (h : i < os.length), i + 1 = k → cfN os[i] (x, y) < 0) := fun i h e => absurd (by omega) hk0
                have HTV := Lib.hid htv
                clear htv
                go_wp2_with fail
                go_quiet (fail)
                have HBD : Hid (Below w4.heap.size w4 (wq.drewN nq)) := HBQ.out.trans ((bdrN wq nq).mono HBQ.out.size)
                generalize wq.drewN nq = wd at HBD ⊢
                clear hki HBQ
              all_goals
                have HKW : Hid (wd.heap[wr.heap.size]? = some (.cells #[.string x, .string y] 43 (0, 0))) := (HBD.out.block _ HLX.out).trans HK4.out
                have HRW := Lib.hid (HRD.out.go HBD.out)
                obtain ⟨W1, hW1, hkw1, hrw1, hbw1, how1⟩ : ∃ W1, W1 = wd.alloc (.cells #[] 43) ∧ Hid (W1.heap[wr.heap.size]? = some (.cells #[.string x, .string y] 43 (0, 0))) ∧ Hid (RdF (.slice (some ⟨g1, 0, none⟩) os.length cpo) os W1) ∧ Hid (Below wd.heap.size wd W1) ∧ Hid (W1.ownsRow wd.heap.size 43 2 (.slice (some ⟨wd.heap.size, 0, none⟩) 0 0) 0 []) :=
                  have hb := (Below.refl wd.heap.size wd).alloc (Nat.le_refl _) (.cells #[] 43)
                  ⟨_, rfl, (hb.block _ (Nat.lt_of_lt_of_le HLX.out HBD.out.size)).trans HKW.out, HRW.out.go hb, hb, World.ownsRow_made wd #[] 0 (Nat.le_refl _) (by unfold maxLen; omega) rfl⟩
                have HW1 := Lib.hid hW1
                have N1 : Hid ((fC (os.take k)).length = k * 2) := by show _ = _; rw [fC_len, List.length_take]; omega
                have N2 := Lib.hid (rd_first hrw1.out k)
                have N3 : Hid (0 + k ≤ maxLen) := by show _ ≤ _; unfold maxLen; omega
                have N4 : Hid ((0 + k) * 32 ≤ 140737488355328) := by show _ ≤ _; omega
                have N5 : Hid (wd.heap.size ≤ W1.heap.size) := hbw1.out.size
                have N6 : Hid (∀ u ∈ fC (os.take k), u.oneCell' = true) := fC_one _
                clear hW1
                have hkI : (0 : Int) ≤ (k : Int) := by omega
                have hkc : (k : Int) ≤ (cpo : Int) := by have := HCP.out; omega
                have hkl : (k : Int) ≤ (os.length : Int) := by omega
                go_wp2_with (at_builtin; rw [← HW1.out]; refine wpList_append_own _ rfl _ _ 22 rfl wd.heap.size 43 ir _ 2 32 Tryz.underlying22 hir hra hrb hrc rfl (by decide) _ _ _ rfl how1.out ⟨g1, 0, none⟩ k cpo (fC (os.take k)) rfl N1.out N2.out N6.out N3.out N4.out N5.out ?_)
                intro v1 V1 hown1 hgrow1 _
                have HB1 : Hid (Below wd.heap.size wd V1) := hbw1.out.grown hgrow1 hbw1.out.size (fun k hk => by simp [Value.ownBlock] at hk; omega)
                have HOWN1 : Hid (V1.ownsRow wd.heap.size 43 2 v1 k (fC (os.take k))) := by
                  exact hown1
                obtain ⟨ao1, cp1, hv1⟩ := own_lenF HOWN1.out
                subst hv1
                have HKV : Hid (V1.heap[wr.heap.size]? = some (.cells #[.string x, .string y] 43 (0, 0))) := (HB1.out.block _ (Nat.lt_of_lt_of_le HLX.out HBD.out.size)).trans HKW.out
                clear hown1 hgrow1
                obtain ⟨e0, e1⟩ := cell2 HKV.out
                obtain ⟨W2, hW2, hk2, hb2⟩ : ∃ W2, W2 = V1.alloc (.cells #[.string x, .string y] 43) ∧ W2.heap[V1.heap.size]? = some (.cells #[.string x, .string y] 43 (0, 0)) ∧ Below V1.heap.size V1 W2 := ⟨_, rfl, heap_alloc_new V1 _, (Below.refl _ _).alloc (Nat.le_refl _) _⟩
                have HW2 := Lib.hid hW2
                have HB2 : Hid (Below wd.heap.size wd W2) := HB1.out.trans (hb2.mono HB1.out.size)
                have O1 : Hid (W2.ownsRow wd.heap.size 43 2 (.slice ao1 k cp1) k (fC (os.take k))) := World.ownsRow.kept HOWN1.out (row := none) ⟨hb2.os, hb2.tape, hb2.output, hb2.size, fun k hk _ => hb2.block k hk⟩ (by cases hv : (Value.slice ao1 k cp1).ownBlock <;> simp)
                have DC2 := Lib.hid (two_cell hk2)
                have M3 : Hid (k + 1 ≤ maxLen) := by show _ ≤ _; unfold maxLen; omega
                have M4 : Hid ((k + 1) * 32 ≤ 140737488355328) := by show _ ≤ _; omega
                have M5 : Hid (wd.heap.size ≤ W2.heap.size) := HB2.out.size
                have LW : Hid (∀ q, (Value.slice ao1 k cp1).ownBlock = some q → wd.heap.size ≤ q) := fun q hq => (O1.out.lt q hq).1
                clear hW2 hk2 hb2
                go_wp2_with (at_builtin; rw [← HW2.out]; refine wpList_append_own _ rfl _ _ 22 rfl wd.heap.size 43 ir _ 2 32 Tryz.underlying22 hir hra hrb hrc rfl (by decide) _ _ _ rfl O1.out ⟨V1.heap.size, 0, none⟩ 1 1 [.string x, .string y] rfl rfl DC2.out two_ok M3.out M4.out M5.out ?_)
                intro v2 V2 hown2 hgrow2 _
                have HB3 : Hid (Below wd.heap.size wd V2) := HB2.out.grown hgrow2 HB2.out.size (fun q hq => LW.out q hq)
                have O2 := Lib.hid hown2
                obtain ⟨ao2, cp2, hv2⟩ := own_lenF hown2
                subst hv2
                clear hown2 hgrow2 e0 e1
                have T3 : Hid (k + 1 + (os.length - k) ≤ maxLen) := by show _ ≤ _; unfold maxLen; omega
                have T4 : Hid ((k + 1 + (os.length - k)) * 32 ≤ 140737488355328) := by show _ ≤ _; omega
                have T5 : Hid (wd.heap.size ≤ V2.heap.size) := HB3.out.size
                have T1 : Hid ((fC (os.drop k)).length = (os.length - k) * 2) := by show _ = _; rw [fC_len, List.length_drop]
                have T6 : Hid (∀ u ∈ fC (os.drop k), u.oneCell' = true) := fC_one _
                have LZ : Hid (∀ q, (Value.slice ao2 (k + 1) cp2).ownBlock = some q → wd.heap.size ≤ q) := fun q hq => (O2.out.lt q hq).1
                have HRZ := Lib.hid (HRW.out.go HB3.out)
                by_cases hck : k = cpo
                · subst hck
                  have hkl2 : k = os.length := by have := HCP.out; omega
                  have T2 : Hid (∀ (q : Nat) (u : Value), (fC (os.drop k))[q]? = some u → V2.cell? ((⟨g1, 0, none⟩ : Addr).add q) = some u) := fun q u hu => by
                    rw [List.drop_of_length_le (by omega)] at hu
                    simp [fC] at hu
                  clear hkl2
                  go_wp2_with (at_builtin; refine wpList_append_own _ rfl _ _ 22 rfl wd.heap.size 43 ir _ 2 32 Tryz.underlying22 hir hra hrb hrc rfl (by decide) _ _ _ rfl O2.out ⟨g1, 0, none⟩ (os.length - k) 0 (fC (os.drop k)) rfl T1.out T2.out T6.out T3.out T4.out T5.out ?_)
                  intro v3 V3 hown3 hgrow3 _
                  have HB4Z : Hid (Below w.heap.size w V3) := HB4.out.trans ((HBD.out.trans ((HB3.out.grown hgrow3 HB3.out.size (fun q hq => LZ.out q hq)).mono HBD.out.size)).mono HB4.out.size)
                  have HOZ : Hid (OwF 43 w.heap.size v3 (insK os (x, y) k) V3) := by
                    show OwF _ _ _ _ _
                    unfold OwF
                    rw [← fC_ins, ins_len _ _ hk]
                    have e : k + 1 + (os.length - k) = os.length + 1 := by omega
                    have h := own_mono hown3 (Nat.le_trans HB4.out.size HBD.out.size)
                    rw [e] at h
                    simpa using h
                  have HI := Lib.hid (ins_ok hk HP.out HPT.out HA.out HTW.out HTV.out HLO.out HGE.out)
                  clear hown3 hgrow3
                  go_wp2
                  go_roundw
                  case rel => exact ⟨j + 1, insK os (x, y) k, by omega, by go_num, by rw [HI.out.2.2], Lib.hid HI.out.1, Lib.hid HI.out.2.1, HNN, HOZ, HB4Z⟩
                  case measure => simp [intOf]; omega
                · have hck' : ¬ (k : Int) = (cpo : Int) := by omega
                  have T2 := Lib.hid (rd_last HRZ.out hk)
                  go_wp2_with (at_builtin; refine wpList_append_own _ rfl _ _ 22 rfl wd.heap.size 43 ir _ 2 32 Tryz.underlying22 hir hra hrb hrc rfl (by decide) _ _ _ rfl O2.out ⟨g1, k * 2, none⟩ (os.length - k) (cpo - k) (fC (os.drop k)) rfl T1.out T2.out T6.out T3.out T4.out T5.out ?_)
                  intro v3 V3 hown3 hgrow3 _
                  have HB4Z : Hid (Below w.heap.size w V3) := HB4.out.trans ((HBD.out.trans ((HB3.out.grown hgrow3 HB3.out.size (fun q hq => LZ.out q hq)).mono HBD.out.size)).mono HB4.out.size)
                  have HOZ : Hid (OwF 43 w.heap.size v3 (insK os (x, y) k) V3) := by
                    show OwF _ _ _ _ _
                    unfold OwF
                    rw [← fC_ins, ins_len _ _ hk]
                    have e : k + 1 + (os.length - k) = os.length + 1 := by omega
                    have h := own_mono hown3 (Nat.le_trans HB4.out.size HBD.out.size)
                    rw [e] at h
                    simpa using h
                  have HI := Lib.hid (ins_ok hk HP.out HPT.out HA.out HTW.out HTV.out HLO.out HGE.out)
                  clear hown3 hgrow3
                  go_wp2
                  go_roundw
                  case rel => exact ⟨j + 1, insK os (x, y) k, by omega, by go_num, by rw [HI.out.2.2], Lib.hid HI.out.1, Lib.hid HI.out.2.1, HNN, HOZ, HB4Z⟩
                  case measure => simp [intOf]; omega
    · have hj2 : j = fs.length := by omega
      have HNB : Hid (fs.any badB = false) := any_no (fun k hk => HN.out k hk (by omega))
      have HPF : Hid (os.Perm fs) := by
        have h := HP.out
        rw [hj2, List.take_length] at h
        exact h
      have hjl : ¬ (j : Int) < (fs.length : Int) := by omega
      clear hj2
      by_cases ho : Onc os
      · have h0 : tw = false := by rw [← HTW.out, decide_eq_true ho]; rfl
        have HO2 : Hid (Onc fs) := (onc_iff HPF.out).1 ho
        clear ho HTW
        subst h0
        go_wp2
        go_ret2
        exact ofw_ok HNB.out HO2.out HPF.out HA.out HO.out HB.out
      · have h0 : tw = true := by rw [← HTW.out, decide_eq_false ho]; rfl
        have HO2 : Hid (¬ Onc fs) := fun h => ho ((onc_iff HPF.out).2 h)
        clear ho HTW
        subst h0
        go_wp2
        go_ret2
        exact ofw_dup HNB.out HO2.out HB.out
end Go.Proofs.YtjgbfpkjkglfnaaGreatDoor.Lb
namespace Go.Proofs.YtjgbfpkjkglfnaaGreatDoor.Lb
open Go.RowKit Ch Jt
set_option linter.unusedSimpArgs false
set_option linter.unusedVariables false

set_option maxRecDepth 100000 in
set_option maxHeartbeats 4000000 in
theorem TextR_c (ao : Option Addr) (cap : Nat) (gs : List FB) (w : World) (hR : RdF (.slice ao gs.length cap) gs w) (hm : gs.length ≤ 150) (hs : ∀ x ∈ gs, shortF x) :
    Calls Tryz.prog 15 #[.slice ao gs.length cap] w fun e w' => e = .returned (.string (Jt.mkS (txtL gs))) ∧ Below w.heap.size w w' := by
  have HR := Lib.hid hR
  have HS := Lib.hid hs
  clear hR hs
  go_enter Tryz.func15, Tryz.ntmps15
  go_wp2
  go_loopw [3, 8] (fun sv v wr => ∃ (k : Nat) (s : ByteArray), k ≤ gs.length ∧ v = .int .i64 k ∧ sv = .string s ∧ Hid (s = Jt.mkS (123 :: prsL (gs.take k))) ∧ Hid (Below w.heap.size w wr)) (fun _ v _ => gs.length - (intOf v).toNat)
  case atStart => exact ⟨0, _, by omega, rfl, rfl, Lib.hid rfl, Lib.hid (Below.refl _ _)⟩
  case round =>
    obtain ⟨k, s, hk, rfl, rfl, HSS, HB⟩ := hrel
    have hln := take_short HS.out k
    have hsz : s.size ≤ 330200 := by
      rw [HSS.out, Jt.size_mkS]
      simp only [List.length_cons]; omega
    by_cases hlt : k < gs.length
    · obtain ⟨g1, o1, rfl, hg1, hat1⟩ := rdf_at2 (HR.out.go HB.out) (by omega)
      obtain ⟨p0, p1⟩ := hat1 k hlt
      have hsk := HS.out _ (List.getElem_mem hlt)
      have HST := Lib.hid (prs_step hlt)
      have hk0 : (0 : Int) ≤ (k : Int) := by omega
      have hkl : (k : Int) < (gs.length : Int) := by omega
      obtain ⟨⟨x, y⟩, hxy⟩ : ∃ f : FB, gs[k] = f := ⟨_, rfl⟩
      rw [hxy] at p0 p1 hsk HST
      simp only at p0 p1
      have hx : x.size ≤ 300 := hsk.1
      have hy : y.size ≤ 300 := hsk.2
      have HQ : Hid (∀ W : World, Calls Tryz.prog 31 #[.string y] W fun e w' => e = .returned (.string (Jt.mkS (quoL y.data.toList))) ∧ w' = W) := fun W => (quoteR_c y W hy).mono fun _ _ h => ⟨h.1, h.2.symm⟩
      have hql := quL_len y.data.toList
      have hys := Lib.size_eq y
      have HOD := Lib.hid (one_data x y)
      have hqz : (Jt.mkS (quoL y.data.toList)).size ≤ 1802 := by rw [Jt.size_mkS]; unfold quoL; simp only [List.length_cons, List.length_append, List.length_nil]; omega
      clear hat1 hsk hxy hql hys
      revert HQ HOD hqz
      generalize Jt.mkS (quoL y.data.toList) = qv
      intro HQ HOD hqz
      have hgn : g1 ≠ wr.heap.size := by omega
      obtain ⟨WP, hWP, hkP, hbP⟩ : ∃ WP, WP = wr.alloc (.cells #[.string x, .string y] 43) ∧ WP.heap[wr.heap.size]? = some (.cells #[.string x, .string y] 43 (0, 0)) ∧ Below wr.heap.size wr WP := ⟨_, rfl, heap_alloc_new wr _, (Below.refl _ _).alloc (Nat.le_refl _) _⟩
      have HWP := Lib.hid hWP
      have HPV0 := Lib.hid hkP
      have HBP : Hid (Below w.heap.size w WP) := HB.out.trans (hbP.mono HB.out.size)
      clear hWP hkP hbP
      by_cases h0 : k = 0
      · have hk1 : ¬ (0 : Int) < (k : Int) := by omega
        have HSN : Hid (s ++ x ++ ⟨#[61]⟩ ++ qv = Jt.mkS (123 :: prsL (gs.take (k + 1)))) := by
          show _ = _
          rw [HST.out, if_pos h0]
          refine Jt.mkS_of ?_
          have h := HOD.out
          simp only [ByteArray.data_append, Array.toList_append] at h ⊢
          rw [List.append_assoc, List.append_assoc, ← List.append_assoc x.data.toList, h, HSS.out, Jt.data_mkS]
          simp
        clear HST h0
        go_wp2_with fail
        rw [← HWP.out]
        clear HWP p0 p1
        obtain ⟨e0, e1⟩ := cell2 HPV0.out
        go_quiet ((go_at_call 31; exact Calls.quiet_of_same (HQ.out _)))
        have HBD : Hid (Below w.heap.size w (WP.drewN nq)) := HBP.out.trans ((bdrN WP nq).mono HBP.out.size)
        go_wp2
        go_roundw
        case rel => exact ⟨k + 1, _, by omega, by go_num, rfl, HSN, HBD⟩
        case measure => simp [intOf]; omega
      · have hk1 : (0 : Int) < (k : Int) := by omega
        have HSN : Hid (s ++ ⟨#[44]⟩ ++ x ++ ⟨#[61]⟩ ++ qv = Jt.mkS (123 :: prsL (gs.take (k + 1)))) := by
          show _ = _
          rw [HST.out, if_neg h0]
          refine Jt.mkS_of ?_
          have h := HOD.out
          simp only [ByteArray.data_append, Array.toList_append] at h ⊢
          rw [List.append_assoc, List.append_assoc, ← List.append_assoc x.data.toList, h, HSS.out, Jt.data_mkS]
          simp
        have hs4 : (s ++ (⟨#[44]⟩ : ByteArray)).size ≤ 330201 := by rw [ByteArray.size_append]; show _ + 1 ≤ _; omega
        clear HST
        go_wp2_with fail
        rw [← HWP.out]
        clear HWP p0 p1
        obtain ⟨e0, e1⟩ := cell2 HPV0.out
        go_quiet ((go_at_call 31; exact Calls.quiet_of_same (HQ.out _)))
        have HBD : Hid (Below w.heap.size w (WP.drewN nq)) := HBP.out.trans ((bdrN WP nq).mono HBP.out.size)
        go_wp2
        go_roundw
        case rel => exact ⟨k + 1, _, by omega, by go_num, rfl, HSN, HBD⟩
        case measure => simp [intOf]; omega
    · have HTX : Hid (s ++ ⟨#[125]⟩ = Jt.mkS (txtL gs)) := by
        show _ = _
        refine Jt.mkS_of ?_
        rw [HSS.out, List.take_of_length_le (by omega)]
        simp only [ByteArray.data_append, Array.toList_append, Jt.data_mkS]
        unfold txtL
        rfl
      go_wp2
      go_ret
      exact ⟨congrArg (fun x => Ending.returned (.string x)) HTX.out, HB.out⟩
end Go.Proofs.YtjgbfpkjkglfnaaGreatDoor.Lb
