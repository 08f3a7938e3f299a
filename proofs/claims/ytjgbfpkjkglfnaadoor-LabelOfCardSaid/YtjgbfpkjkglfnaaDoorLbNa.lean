/- Contracts and plain mathematics of some packages' functions, laid together; conditions as each one says. -/
import Derived.Test.YtjgbfpkjkglfnaaDoorLbK
import Derived.Deep.Strs
import Derived.Deep.RegionHeld3
namespace Go.Proofs.YtjgbfpkjkglfnaaDoor.Lb
open Go.RowKit Ch Jt
set_option linter.unusedSimpArgs false
set_option linter.unusedVariables false

theorem own_mono {T : TypeId} {B B' k n : Nat} {v : Value} {xs : List Value} {w : World} (h : w.ownsRow B T k v n xs) (hB : B' ≤ B) : w.ownsRow B' T k v n xs := by
  obtain ⟨h1, h2⟩ := h
  refine ⟨h1, ?_⟩
  rcases h2 with h2 | ⟨g, cap, cur, hv, hb, rest⟩
  · exact .inl h2
  · exact .inr ⟨g, cap, cur, hv, Nat.le_trans hB hb, rest⟩
theorem clone_c (ao : Option Addr) (cap : Nat) (gs : List FB) (w : World) (hR : RdF (.slice ao gs.length cap) gs w) (hp : Pl ao) (hm : gs.length ≤ 1000) :
    Calls Tryd.prog 48 #[.slice ao gs.length cap] w fun e w' => ∃ v, e = .returned v ∧ OwF 52 w.heap.size v gs w' ∧ Below w.heap.size w w' := by
  obtain ⟨i0, hi, hz0, hz1, hz2⟩ := info_parts info2
  rcases hp with rfl | ⟨b, rfl⟩
  · have h0 : gs = [] := by
      cases gs with
      | nil => rfl
      | cons x r => obtain ⟨g, off, e, _⟩ := rdf_at2 hR (by simp); cases e
    subst h0
    have h := AnyE.slices_Clone_nil (P := Tryd.prog) Tryd.cloneP 0 cap w
    exact Calls.mono h fun e w' ⟨he, hw⟩ => ⟨_, he, World.ownsRow_nil _ _ _ _, by rw [hw]; exact Below.refl _ _⟩
  · have h := AnyE.slices_Clone (P := Tryd.prog) Tryd.cloneP i0 _ 2 32 hi hz0 hz1 hz2 rfl (by decide) Tryd.sizeOf52 b 0 gs.length cap (fC gs) w (fC_len gs) (by unfold maxLen; omega) (by omega) (fun j u hu => by
      have hj : j < gs.length * 2 := by
        rcases Nat.lt_or_ge j (gs.length * 2) with h | h
        · exact h
        · rw [List.getElem?_eq_none (by rw [fC_len]; exact h)] at hu; cases hu
      have hq : j / 2 < gs.length := by omega
      obtain ⟨a0, a1⟩ := fC_at gs (j / 2) hq
      obtain ⟨b0, b1, _⟩ := rdf_at hR hq
      rw [Nat.zero_add]
      rcases Nat.mod_two_eq_zero_or_one j with h | h
      · have ej : j = j / 2 * 2 := by omega
        rw [ej] at hu ⊢
        rw [b0, ← a0, hu]
      · have ej : j = j / 2 * 2 + 1 := by omega
        rw [ej] at hu ⊢
        rw [b1, ← a1, hu]) (fC_one gs)
    exact Calls.mono h fun e w' ⟨v, he, ho, _, hb⟩ => ⟨v, he, ho, hb⟩
set_option maxRecDepth 100000 in
set_option maxHeartbeats 4000000 in
theorem Prs_c (ao : Option Addr) (cap : Nat) (gs : List FB) (w : World) (hR : RdF (.slice ao gs.length cap) gs w) (hp : Pl ao) (hm : gs.length ≤ 1000) :
    Calls Tryd.prog 30 #[.agg #[.slice ao gs.length cap]] w fun e w' => ∃ v, e = .returned v ∧ OwF 52 w.heap.size v gs w' ∧ Below w.heap.size w w' := by
  have hba := (Below.refl w.heap.size w).alloc (Nat.le_refl _) (.cells #[.slice ao gs.length cap] 27)
  have HC := Lib.hid (clone_c ao cap gs _ (hR.go hba) hp hm)
  have HBA := Lib.hid hba
  clear hba hR hp
  go_enter Tryd.func30, Tryd.ntmps30
  go_wp2_with fail
  refine HC.out.mono ?_
  rintro e w2 ⟨v, rfl, ho, hb⟩
  have HO := Lib.hid (own_mono ho HBA.out.size)
  have HB2 : Hid (Below w.heap.size w w2) := HBA.out.trans (hb.mono HBA.out.size)
  clear ho hb
  go_wp2
  go_ret
  exact ⟨_, rfl, HO.out, HB2.out⟩
set_option maxRecDepth 100000 in
set_option maxHeartbeats 4000000 in
theorem Plain_c (ao : Option Addr) (cap : Nat) (gs : List FB) (w : World) (hR : RdF (.slice ao gs.length cap) gs w) (hp : Pl ao) (hm : gs.length ≤ 1000) :
    Calls Tryd.prog 10 #[.agg #[.slice ao gs.length cap]] w fun e w' => ∃ v, e = .returned v ∧ OwF 48 w.heap.size v gs w' ∧ Below w.heap.size w w' := by
  have hba := (Below.refl w.heap.size w).alloc (Nat.le_refl _) (.cells #[.slice ao gs.length cap] 27)
  have HC2 := Lib.hid (Prs_c ao cap gs _ (hR.go hba) hp hm)
  have HBA := Lib.hid hba
  obtain ⟨ir, hir, hra, hrb, hrc⟩ := info_parts infoR
  clear hba hR hp
  go_enter Tryd.func10, Tryd.ntmps10
  go_wp2_with fail
  refine HC2.out.mono ?_
  rintro e w2 ⟨v, rfl, ho, hb⟩
  obtain ⟨ap, cp, hv⟩ := own_lenF ho
  subst hv
  have HR2 := Lib.hid ho.rd
  have HB2 : Hid (Below w.heap.size w w2) := HBA.out.trans (hb.mono HBA.out.size)
  clear ho hb HC2
  go_wp2
  go_loopw [3, 9] (fun ov iv wr => ∃ j : Nat, j ≤ gs.length ∧ iv = .int .i64 j ∧ Hid (OwF 48 w2.heap.size ov (gs.take j) wr) ∧ Hid (Below w2.heap.size w2 wr)) (fun _ iv _ => gs.length - (intOf iv).toNat)
  case atStart => exact ⟨0, by omega, rfl, Lib.hid (World.ownsRow_nil _ _ _ _), Lib.hid (Below.refl _ _)⟩
  case round =>
    obtain ⟨j, hj, rfl, HO, HB⟩ := hrel
    obtain ⟨aoo, cpo, hv⟩ := own_lenF HO.out
    subst hv
    have HTL : Hid ((gs.take j).length = j) := by show _ = _; rw [List.length_take]; omega
    rw [HTL.out] at HO ⊢
    by_cases hlt : j < gs.length
    · obtain ⟨g, off, rfl, hg, hat⟩ := rdf_at2 (HR2.out.go HB.out) (by omega)
      obtain ⟨p0, p1⟩ := hat j hlt
      have HST : Hid (gs.take (j + 1) = gs.take j ++ [gs[j]]) := List.take_succ_eq_append_getElem hlt
      have hj0 : (0 : Int) ≤ (j : Int) := by omega
      have hjl : (j : Int) < (gs.length : Int) := by omega
      clear hat
      obtain ⟨⟨x, y⟩, hxy⟩ : ∃ f : FB, gs[j] = f := ⟨_, rfl⟩
      rw [hxy] at p0 p1 HST
      simp only at p0 p1
      clear hxy
      obtain ⟨W3, hW3, hk1, hk0, hb1⟩ := new_two wr (.string x) (.string y) 52 48
      have HW3 := Lib.hid hW3
      have HB3 : Hid (Below w2.heap.size w2 W3) := HB.out.trans (hb1.mono HB.out.size)
      have IO := Lib.hid (HO.out.go hb1)
      unfold OwF at IO
      rw [HTL.out] at IO
      have DC := Lib.hid (two_cell hk1)
      have D3 : Hid (j + 1 ≤ maxLen) := by show _ ≤ _; unfold maxLen; omega
      have D4 : Hid ((j + 1) * 32 ≤ 140737488355328) := by show _ ≤ _; omega
      have E1 : Hid (w2.heap.size ≤ W3.heap.size) := HB3.out.size
      clear hW3 hk1 hk0 hb1
      go_wp2_with (at_builtin; rw [← HW3.out]; refine wpList_append_own _ rfl _ _ 22 rfl w2.heap.size 48 ir _ 2 32 Tryd.underlying22 hir hra hrb hrc rfl (by decide) _ _ _ rfl IO.out ⟨wr.heap.size + 1, 0, none⟩ 1 1 [.string x, .string y] rfl rfl DC.out two_ok D3.out D4.out E1.out ?_)
      intro v1 V1 hown1 hgrow1 _
      have HBV : Hid (Below w2.heap.size w2 V1) := HB3.out.grown hgrow1 HB3.out.size (fun k hk => (IO.out.lt k hk).1)
      have JO : Hid (OwF 48 w2.heap.size v1 (gs.take (j + 1)) V1) := by
        show OwF _ _ _ _ _
        rw [HST.out]; unfold OwF; rw [fC_snoc, List.length_append, HTL.out]
        exact hown1
      clear hown1 hgrow1
      go_wp2
      go_roundw
      case rel => exact ⟨j + 1, by omega, by go_num, JO, HBV⟩
      case measure => simp [intOf]; omega
    · have hje : gs.take j = gs := List.take_of_length_le (by omega)
      have HLE : Hid (j = gs.length) := by show _ = _; omega
      rw [hje] at HO
      have HOZ : Hid (OwF 48 w.heap.size (.slice aoo j cpo) gs wr) := own_mono HO.out HB2.out.size
      have HBZ : Hid (Below w.heap.size w wr) := HB2.out.trans (HB.out.mono HB2.out.size)
      clear hje HO
      go_wp2
      go_ret
      exact ⟨_, rfl, HOZ.out, HBZ.out⟩
theorem neqR (a b c d : ByteArray) (W : World) : (binOp .neq 48 (.agg #[.string a, .string b]) (.agg #[.string c, .string d])).run Tryd.prog W = .ok (.bool (!decide (a.data.toList = c.data.toList ∧ b.data.toList = d.data.toList))) W := by
  have u9 := Tryd.underlying9
  have hS : Tryd.prog.underlying 48 = some (.struct (Tryd.prog.fieldsOf 48)) := by kernel_rfl
  have hp : Tryd.prog.stoodInHeld 48 = false := by kernel_rfl
  rw [run_neq_struct, show (10000 : Nat) = 9999 + 1 from rfl, run_equalIn_agg W 9999 48 _ _ hS hp]
  simp only [Program.fieldsOf, Tryd.underlying48]
  go_simp
  simp only [Lib.toList_data]
  by_cases h1 : a.data = c.data <;> by_cases h2 : b.data = d.data <;> simp [h1, h2]
set_option maxRecDepth 100000 in
set_option maxHeartbeats 4000000 in
theorem RSame_c (a1 a2 : Option Addr) (c1 c2 : Nat) (xs : List FB) (w : World) (hA : RdF (.slice a1 xs.length c1) xs w) (hB : RdF (.slice a2 xs.length c2) xs w) (hm : xs.length ≤ 1000) :
    Calls Tryd.prog 9 #[.slice a1 xs.length c1, .slice a2 xs.length c2] w fun e w' => e = .returned (.bool true) ∧ Below w.heap.size w w' := by
  have HA := Lib.hid hA
  have HB := Lib.hid hB
  clear hA hB
  go_enter Tryd.func9, Tryd.ntmps9
  go_wp2
  go_loopw [13] (fun v wr => ∃ j : Nat, j ≤ xs.length ∧ v = .int .i64 j ∧ Hid (Below w.heap.size w wr)) (fun v _ => xs.length - (intOf v).toNat)
  case atStart => exact ⟨0, by omega, rfl, Lib.hid (Below.refl _ _)⟩
  case round =>
    obtain ⟨j, hj, rfl, HBW⟩ := hrel
    by_cases hlt : j < xs.length
    · obtain ⟨g1, o1, rfl, hg1, hat1⟩ := rdf_at2 (HA.out.go HBW.out) (by omega)
      obtain ⟨g2, o2, rfl, hg2, hat2⟩ := rdf_at2 (HB.out.go HBW.out) (by omega)
      obtain ⟨p0, p1⟩ := hat1 j hlt
      obtain ⟨q0, q1⟩ := hat2 j hlt
      have hj0 : (0 : Int) ≤ (j : Int) := by omega
      have hjl : (j : Int) < (xs.length : Int) := by omega
      have hN := fun W => neqR xs[j].1 xs[j].2 xs[j].1 xs[j].2 W
      rw [decide_eq_true (⟨rfl, rfl⟩ : xs[j].1.data.toList = xs[j].1.data.toList ∧ xs[j].2.data.toList = xs[j].2.data.toList)] at hN
      clear hat1 hat2
      revert p0 p1 q0 q1 hN
      generalize xs[j].1 = xa
      generalize xs[j].2 = xb
      intro p0 p1 q0 q1 hN
      go_wp2_with fail
      go_quiet (fail)
      go_wp2
      go_roundw
      case rel => exact ⟨j + 1, by omega, by go_num, Lib.hid (HBW.out.trans ((bdrN wr _).mono HBW.out.size))⟩
      case measure => simp [intOf]; omega
    · go_wp2
      go_ret
      exact ⟨rfl, HBW.out⟩
end Go.Proofs.YtjgbfpkjkglfnaaDoor.Lb
namespace Go.Proofs.YtjgbfpkjkglfnaaDoor.Lb
open Go.RowKit Ch Jt
set_option linter.unusedSimpArgs false
set_option linter.unusedVariables false

def cfS (x : FB) (s : ByteArray) : Int := Lib.compareBytes x.1.data.toList s.data.toList
set_option maxRecDepth 100000 in
set_option maxHeartbeats 2000000 in
theorem clf_c (x : FB) (s : ByteArray) (W : World) : Calls Tryd.prog 54 #[.agg #[.string x.1, .string x.2], .string s] W fun e w' => e = .returned (.int .i64 (cfS x s)) ∧ Below W.heap.size W w' := by
  have hcon := fun W' => Any.strings_Compare Tryd.lays106 x.1 s W'
  change ∀ W', Calls Tryd.prog 28 _ _ _ at hcon
  unfold cfS
  generalize Lib.compareBytes x.1.data.toList s.data.toList = r at hcon ⊢
  have HB := Lib.hid ((Below.refl W.heap.size W).alloc (Nat.le_refl _) (.cells #[.string x.1, .string x.2] 52))
  go_enter Tryd.func54, Tryd.ntmps54
  go_wp2_with (go_at_call 28; refine (hcon _).mono ?_; rintro e w' ⟨rfl, rfl⟩)
  go_ret
  exact ⟨rfl, HB.out⟩
theorem asc_low {gs : List FB} (ha : Asc gs) {s : ByteArray} {h k : Nat} (hh : h < gs.length) (hc : cfS gs[h] s < 0) (hk : k < gs.length) (hkh : k ≤ h) : cfS gs[k] s < 0 := by
  rcases Nat.lt_or_eq_of_le hkh with g | g
  · have h1 : ¬ cfN gs[h] gs[k] < 0 := (List.pairwise_iff_getElem.1 ha) k h hk hh g
    by_cases h2 : cfN gs[k] gs[h] < 0
    · exact cb_trans _ _ _ h2 hc
    · have e := cf_eq h2 h1
      unfold cfS at hc ⊢
      rw [e]; exact hc
  · subst g; exact hc
theorem asc_high {gs : List FB} (ha : Asc gs) {s : ByteArray} {h k : Nat} (hh : h < gs.length) (hc : ¬ cfS gs[h] s < 0) (hk : k < gs.length) (hkh : h ≤ k) : ¬ cfS gs[k] s < 0 := fun h2 => hc (asc_low ha hk h2 hh hkh)
theorem cfS_zero {x : FB} {s : ByteArray} (h : cfS x s = 0) : x.1 = s := ba_ext (cb_zero _ _ h)
theorem cfS_self {x : FB} {s : ByteArray} (h : x.1 = s) : cfS x s = 0 := by unfold cfS; rw [h]; exact cb_self _
theorem fnd_none {gs : List FB} (ha : Asc gs) {s : ByteArray} {i : Nat} (hl : ∀ k (h : k < gs.length), k < i → cfS gs[k] s < 0) (hr : ∀ h : i < gs.length, ¬ cfS gs[i] s < 0 ∧ cfS gs[i] s ≠ 0) : ∀ x ∈ gs, x.1 ≠ s := fun x hx e => by
  obtain ⟨k, hk, rfl⟩ := List.mem_iff_getElem.1 hx
  have hz := cfS_self e
  rcases Nat.lt_trichotomy k i with h | h | h
  · have := hl k hk h; omega
  · subst h; exact (hr hk).2 hz
  · have hi : i < gs.length := by omega
    have h1 : ¬ cfN gs[k] gs[i] < 0 := (List.pairwise_iff_getElem.1 ha) i k hi hk h
    have h2 : cfN gs[k] gs[i] = - cfS gs[i] s := by unfold cfN cfS; rw [e]; exact cb_anti _ _
    have := hr hi
    omega
/-- the place of a name: how many stand ahead of it -/
def lowN (gs : List FB) (s : ByteArray) : Nat := (gs.takeWhile fun x => decide (cfS x s < 0)).length
def BinQ (gs : List FB) (s : ByteArray) (w : World) (e : Ending) (w' : World) : Prop := ∃ (i : Nat) (b : Bool), e = .returned (.tuple #[.int .i64 i, .bool b]) ∧ (b = true → ∃ h : i < gs.length, gs[i].1 = s) ∧ (b = false → ∀ x ∈ gs, x.1 ≠ s) ∧ Below w.heap.size w w'
theorem binq_no {gs : List FB} {s : ByteArray} {w w' : World} (i : Nat) (h : ∀ x ∈ gs, x.1 ≠ s) (hb : Below w.heap.size w w') : BinQ gs s w (.returned (.tuple #[.int .i64 i, .bool false])) w' := ⟨i, false, rfl, fun h => absurd h (by decide), fun _ => h, hb⟩
theorem binq_d {gs : List FB} {s : ByteArray} {w w' : World} (i : Nat) (r : Int) (hy : r = 0 → ∃ h : i < gs.length, gs[i].1 = s) (hn : r ≠ 0 → ∀ x ∈ gs, x.1 ≠ s) (hb : Below w.heap.size w w') : BinQ gs s w (.returned (.tuple #[.int .i64 i, .bool (r == 0)])) w' := ⟨i, _, rfl, fun h => hy (by simpa using h), fun h => hn (by simpa using h), hb⟩
set_option maxRecDepth 100000 in
set_option maxHeartbeats 4000000 in
theorem bin_c (ao : Option Addr) (cap : Nat) (gs : List FB) (s : ByteArray) (w : World) (hR : RdF (.slice ao gs.length cap) gs w) (ha : Asc gs) (hm : gs.length ≤ 1000) :
    Calls Tryd.prog 53 #[.slice ao gs.length cap, .string s, .func (.func 54) #[] #[]] w (BinQ gs s w) := by
  have HR := Lib.hid hR
  have HA := Lib.hid ha
  clear hR ha
  go_enter Tryd.func53, Tryd.ntmps53
  go_wp2
  go_loopw [9, 10] (fun iv jv wr => ∃ i j : Nat, i ≤ j ∧ j ≤ gs.length ∧ iv = .int .i64 i ∧ jv = .int .i64 j ∧ Hid (∀ k (h : k < gs.length), k < i → cfS gs[k] s < 0) ∧ Hid (∀ k (h : k < gs.length), j ≤ k → 0 ≤ cfS gs[k] s) ∧ Hid (Below w.heap.size w wr)) (fun iv jv _ => (intOf jv).toNat - (intOf iv).toNat)
  case atStart => exact ⟨0, gs.length, by omega, by omega, rfl, rfl, Lib.hid (fun k _ h => absurd h (Nat.not_lt_zero _)), Lib.hid (fun k h h2 => absurd h (by omega)), Lib.hid (Below.refl _ _)⟩
  case round =>
    obtain ⟨i, j, hij, hj, rfl, rfl, HL, HH, HB⟩ := hrel
    by_cases hlt : i < j
    · have hi0 : (0 : Int) ≤ (i : Int) := by omega
      have hijI : (i : Int) < (j : Int) := by omega
      have hjl : (j : Int) ≤ (gs.length : Int) := by omega
      obtain ⟨h, hh⟩ : ∃ h, h = (i + j) / 2 := ⟨_, rfl⟩
      have hh1 : i ≤ h := by omega
      have hh2 : h < j := by omega
      have hhI : ((i : Int) + (j : Int)) / 2 = (h : Int) := by omega
      have hh0 : (0 : Int) ≤ (h : Int) := by omega
      have hhl : (h : Int) < (gs.length : Int) := by omega
      obtain ⟨g, off, rfl, hg, hat⟩ := rdf_at2 (HR.out.go HB.out) (by omega)
      have hhn : h < gs.length := by omega
      obtain ⟨p0, p1⟩ := hat h hhn
      have HCL := Lib.hid (fun W => clf_c gs[h] s W)
      have HFH : Hid (cfS gs[h] s < 0 → ∀ k (hk : k < gs.length), k < h + 1 → cfS gs[k] s < 0) := fun hc k hk hlt2 => asc_low HA.out hhn hc hk (by omega)
      have HFL : Hid (0 ≤ cfS gs[h] s → ∀ k (hk : k < gs.length), h ≤ k → 0 ≤ cfS gs[k] s) := fun hc k hk hge => Int.not_lt.1 (asc_high HA.out hhn (Int.not_lt.2 hc) hk hge)
      clear hat hh
      revert p0 p1 HCL HFH HFL
      generalize gs[h].1 = x
      generalize gs[h].2 = y
      generalize cfS gs[h] s = r
      intro p0 p1 HCL HFH HFL
      by_cases hr : r < 0
      · go_wp2_with fail
        refine (HCL.out _).mono ?_
        rintro e w2 ⟨rfl, hb⟩
        have HB2 : Hid (Below w.heap.size w w2) := HB.out.trans (hb.mono HB.out.size)
        clear hb p0 p1
        go_wp2
        go_roundw
        case rel => exact ⟨h + 1, j, by omega, hj, by go_num, rfl, Lib.hid (HFH.out hr), HH, HB2⟩
        case measure => simp [intOf]; omega
      · go_wp2_with fail
        refine (HCL.out _).mono ?_
        rintro e w2 ⟨rfl, hb⟩
        have HB2 : Hid (Below w.heap.size w w2) := HB.out.trans (hb.mono HB.out.size)
        clear hb p0 p1
        go_wp2
        go_roundw
        case rel => exact ⟨i, h, hh1, by omega, rfl, rfl, HL, Lib.hid (HFL.out (by omega)), HB2⟩
        case measure => simp [intOf]; omega
    · have hije : j = i := by omega
      subst hije
      clear hij
      have hi0 : (0 : Int) ≤ (j : Int) := by omega
      by_cases hin : j < gs.length
      · have hijI : (j : Int) < (gs.length : Int) := by omega
        obtain ⟨g, off, rfl, hg, hat⟩ := rdf_at2 (HR.out.go HB.out) (by omega)
        obtain ⟨p0, p1⟩ := hat j hin
        have HCL := Lib.hid (fun W => clf_c gs[j] s W)
        have hnl := Int.not_lt.2 (HH.out j hin (Nat.le_refl _))
        have HY : Hid (cfS gs[j] s = 0 → ∃ h : j < gs.length, gs[j].1 = s) := fun h => ⟨hin, cfS_zero h⟩
        have HNO : Hid (cfS gs[j] s ≠ 0 → ∀ x ∈ gs, x.1 ≠ s) := fun h => fnd_none HA.out HL.out (fun _ => ⟨hnl, h⟩)
        clear hat hnl
        revert p0 p1 HCL HY HNO
        generalize gs[j].1 = x
        generalize gs[j].2 = y
        generalize cfS gs[j] s = r
        intro p0 p1 HCL HY HNO
        go_wp2_with fail
        refine (HCL.out _).mono ?_
        rintro e w2 ⟨rfl, hb⟩
        have HB2 : Hid (Below w.heap.size w w2) := HB.out.trans (hb.mono HB.out.size)
        clear hb p0 p1
        go_wp2
        go_ret2
        exact binq_d j r HY.out HNO.out HB2.out
      · have hijI : ¬ (j : Int) < (gs.length : Int) := by omega
        have HNO : Hid (∀ x ∈ gs, x.1 ≠ s) := fnd_none HA.out HL.out (fun h => absurd h hin)
        go_wp2
        go_ret2
        exact binq_no j HNO.out HB.out
set_option maxRecDepth 100000 in
set_option maxHeartbeats 4000000 in
theorem find_c (ao : Option Addr) (cap : Nat) (gs : List FB) (s : ByteArray) (w : World) (hR : RdF (.slice ao gs.length cap) gs w) (ha : Asc gs) (hm : gs.length ≤ 1000) :
    Calls Tryd.prog 35 #[.agg #[.slice ao gs.length cap], .string s] w (BinQ gs s w) := by
  have hba := (Below.refl w.heap.size w).alloc (Nat.le_refl _) (.cells #[.slice ao gs.length cap] 27)
  have HC := Lib.hid (bin_c ao cap gs s _ (hR.go hba) ha hm)
  have HBA := Lib.hid hba
  clear hba hR ha
  go_enter Tryd.func35, Tryd.ntmps35
  go_wp2_with fail
  refine HC.out.mono ?_
  rintro e w2 ⟨i, b, rfl, hy, hn, hb⟩
  have HQ : Hid (BinQ gs s w (.returned (.tuple #[.int .i64 i, .bool b])) w2) := ⟨i, b, rfl, hy, hn, HBA.out.trans (hb.mono HBA.out.size)⟩
  clear hy hn hb
  go_wp2
  go_ret2
  exact HQ.out
end Go.Proofs.YtjgbfpkjkglfnaaDoor.Lb
namespace Go.Proofs.YtjgbfpkjkglfnaaDoor.Lb
open Go.RowKit Ch Jt
set_option linter.unusedSimpArgs false
set_option linter.unusedVariables false

/-- texts that can be read -/
def RdS (v : Value) (ss : List ByteArray) (w : World) : Prop := ∃ ao cap, v = .slice ao ss.length cap ∧ (0 < ss.length → ∃ g off, ao = some ⟨g, off, none⟩ ∧ g < w.heap.size ∧ ∀ i (hi : i < ss.length), w.cell? ⟨g, off + i, none⟩ = some (.string ss[i]))
theorem RdS.go {v : Value} {ss : List ByteArray} {w W : World} (h : RdS v ss w) (hb : Below w.heap.size w W) : RdS v ss W := by
  obtain ⟨ao, cap, rfl, h⟩ := h
  refine ⟨ao, cap, rfl, fun h0 => ?_⟩
  obtain ⟨g, off, rfl, hg, hc⟩ := h h0
  exact ⟨g, off, rfl, Nat.lt_of_lt_of_le hg hb.size, fun i hi => (hb.cell (p := ⟨g, off + i, none⟩) hg).trans (hc i hi)⟩
theorem rds_at {ao : Option Addr} {cap n : Nat} {ss : List ByteArray} {w : World} (h : RdS (.slice ao n cap) ss w) (h0 : 0 < ss.length) : ∃ g off, ao = some ⟨g, off, none⟩ ∧ g < w.heap.size ∧ ∀ i (hi : i < ss.length), w.cell? ⟨g, off + i, none⟩ = some (.string ss[i]) := by
  obtain ⟨ao', cp, e, hh⟩ := h
  injection e with ea eb ec
  subst ea
  exact hh h0
def inN (L : List ByteArray) (s : ByteArray) : Bool := L.any fun y => decide (y = s)
theorem inN_snoc (L : List ByteArray) (y s : ByteArray) : inN (L ++ [y]) s = (inN L s || decide (y = s)) := by unfold inN; rw [List.any_append]; simp
/-- which pairs have one of these names -/
def pkV (gs : List FB) (L : List ByteArray) : List Value := gs.map fun x => .bool (inN L x.1)
theorem pk_len (gs : List FB) (L : List ByteArray) : (pkV gs L).length = gs.length := by unfold pkV; simp
theorem pk_at {gs : List FB} {L : List ByteArray} {k : Nat} (hk : k < gs.length) : (pkV gs L)[k]? = some (.bool (inN L gs[k].1)) := by unfold pkV; simp [hk]
theorem pk_nil (gs : List FB) : pkV gs [] = List.replicate gs.length (.bool false) := by
  unfold pkV
  apply List.ext_getElem
  · simp
  · intro i h1 h2; simp [inN]
theorem pk_no {gs : List FB} {L : List ByteArray} {s : ByteArray} (h : ∀ x ∈ gs, x.1 ≠ s) : pkV gs (L ++ [s]) = pkV gs L := by
  unfold pkV
  apply List.map_congr_left
  intro x hx
  rw [inN_snoc, decide_eq_false (fun e => h x hx e.symm), Bool.or_false]
theorem pk_yes {gs : List FB} {L : List ByteArray} {s : ByteArray} {i : Nat} (ho : Onc gs) (hi : i < gs.length) (h : gs[i].1 = s) : pkV gs (L ++ [s]) = (pkV gs L).set i (.bool true) := by
  apply List.ext_getElem
  · simp [pkV]
  · intro k h1 h2
    have hk : k < gs.length := by simpa [pkV] using h1
    rw [List.getElem_set]
    by_cases hik : i = k
    · subst hik
      rw [if_pos rfl]
      simp [pkV, inN_snoc, h]
    · rw [if_neg hik]
      have hne : gs[k].1 ≠ s := fun e => by
        have he := onc_inj ho (List.getElem_mem hk) (List.getElem_mem hi) (e.trans h.symm)
        unfold Onc at ho
        rw [List.nodup_iff_pairwise_ne, List.pairwise_map, List.pairwise_iff_getElem] at ho
        rcases Nat.lt_or_gt_of_ne hik with g | g
        · exact ho i k hi hk g (h.trans e.symm)
        · exact ho k i hk hi g (e.trans h.symm)
      have hne2 : ¬ s = gs[k].1 := fun e => hne e.symm
      simp [pkV, inN_snoc, hne2]
theorem made_b (n : Nat) : (madeCells #[Value.bool false] n).toList = List.replicate n (.bool false) := by
  unfold madeCells
  apply List.ext_getElem
  · simp
  · intro i h1 h2
    have hm : i % 1 = 0 := Nat.mod_one i
    simp [hm]
theorem pck_snoc {gs : List FB} {L : List ByteArray} {k : Nat} (hk : k < gs.length) : (gs.take (k + 1)).filter (fun x => inN L x.1) = (gs.take k).filter (fun x => inN L x.1) ++ (if inN L gs[k].1 = true then [gs[k]] else []) := by
  rw [List.take_succ_eq_append_getElem hk, List.filter_append]
  by_cases h : inN L gs[k].1 = true
  · simp [h]
  · simp [h]
theorem own_pl {T : TypeId} {B k n m : Nat} {ao : Option Addr} {cap : Nat} {xs : List Value} {w : World} (h : w.ownsRow B T k (.slice ao m cap) n xs) : Pl ao := by
  rcases h.2 with ⟨h, _⟩ | ⟨g, cap', cur, h, _⟩
  · injection h with h; exact .inl h
  · injection h with h; exact .inr ⟨g, h⟩
theorem OwF.pl {T : TypeId} {B m : Nat} {ao : Option Addr} {cap : Nat} {fs : List FB} {w : World} (h : OwF T B (.slice ao m cap) fs w) : Pl ao := own_pl h
theorem infoBo : (Tryd.prog.info? 4).map (fun i => (i.zero, i.size, i.bytes)) = some (some (.bool false), 1, 1) := by kernel_rfl
/-- what lies while pairs are picked: the set's box, the answer's, the row of which are picked -/
def PK (w : World) (gs : List FB) (ao : Option Addr) (cap : Nat) (L : List ByteArray) (V : World) : Prop := Below w.heap.size w V ∧ V.heap[w.heap.size]? = some (.cells #[.slice ao gs.length cap] 27 (0, 0)) ∧ V.heap[w.heap.size + 1]? = some (.cells #[.slice none 0 0] 27 (0, 0)) ∧ V.heap[w.heap.size + 1 + 1]? = some (.cells (pkV gs L).toArray 4 (0, 0))
theorem PK.go {w : World} {gs : List FB} {ao : Option Addr} {cap : Nat} {L : List ByteArray} {V V' : World} (h : PK w gs ao cap L V) (hb : Below V.heap.size V V') : PK w gs ao cap L V' :=
  ⟨h.1.trans (hb.mono h.1.size), (hb.block _ (Array.getElem?_eq_some_iff.1 h.2.1).1).trans h.2.1, (hb.block _ (Array.getElem?_eq_some_iff.1 h.2.2.1).1).trans h.2.2.1, (hb.block _ (Array.getElem?_eq_some_iff.1 h.2.2.2).1).trans h.2.2.2⟩
theorem PK.b {w : World} {gs : List FB} {ao : Option Addr} {cap : Nat} {L : List ByteArray} {V : World} (h : PK w gs ao cap L V) : Below w.heap.size w V := h.1
theorem PK.s {w : World} {gs : List FB} {ao : Option Addr} {cap : Nat} {L : List ByteArray} {V : World} (h : PK w gs ao cap L V) : V.cell? ⟨w.heap.size, 0, none⟩ = some (.slice ao gs.length cap) := cell_of_row _ _ 0 _ _ _ h.2.1
theorem PK.p {w : World} {gs : List FB} {ao : Option Addr} {cap : Nat} {L : List ByteArray} {V : World} (h : PK w gs ao cap L V) {i : Nat} (hi : i < gs.length) : V.cell? ⟨w.heap.size + 1 + 1, i, none⟩ = some (.bool (inN L gs[i].1)) ∧ V.frozen? ⟨w.heap.size + 1 + 1, i, none⟩ = false := by
  refine ⟨?_, frz h.2.2.2 i⟩
  rw [cell_of_row _ _ i _ _ _ h.2.2.2, List.getElem?_toArray]
  exact pk_at hi
theorem PK.set {w : World} {gs : List FB} {ao : Option Addr} {cap : Nat} {L : List ByteArray} {s : ByteArray} {V : World} (h : PK w gs ao cap L V) {i : Nat} (ho : Onc gs) (hi : i < gs.length) (he : gs[i].1 = s) : PK w gs ao cap (L ++ [s]) (V.setCell ⟨w.heap.size + 1 + 1, i, none⟩ (.bool true)) := by
  have e := setCell_eq_setRow V (w.heap.size + 1 + 1) i _ _ _ (.bool true) h.2.2.2
  rw [e]
  refine ⟨h.1.trans ⟨rfl, rfl, rfl, by simp [World.setRow], fun k hk => setRow_other V _ k _ (by omega)⟩, (setRow_other V _ _ _ (by omega)).trans h.2.1, (setRow_other V _ _ _ (by omega)).trans h.2.2.1, ?_⟩
  rw [setRow_heap V _ _ _ _ _ h.2.2.2, pk_yes ho hi he]
  simp
theorem PK.new {w w2 : World} {gs : List FB} {ao : Option Addr} {cap : Nat} (hown : w2.ownsRow w.heap.size 4 1 (.slice (some ⟨w.heap.size + 1 + 1, 0, none⟩) gs.length gs.length) gs.length (madeCells #[.bool false] gs.length).toList) (hg : ((w.alloc (.cells #[.slice ao gs.length cap] 27)).alloc (.cells #[.slice none 0 0] 27)).grownBy w2 none) : PK w gs ao cap [] w2 := by
  have hb0 := (Below.refl w.heap.size w).alloc (Nat.le_refl _) (.cells #[.slice ao gs.length cap] 27)
  have hb1 := hb0.alloc hb0.size (.cells #[.slice none 0 0] 27)
  have z : ((w.alloc (.cells #[.slice ao gs.length cap] 27)).alloc (.cells #[.slice none 0 0] 27)).heap.size = w.heap.size + 1 + 1 := by simp
  refine ⟨hb1.grown hg hb1.size (fun j hj => by cases hj), ?_, ?_, ?_⟩
  · rw [hg.block _ (by rw [z]; omega) (by simp)]
    have hb := (Below.refl (w.heap.size + 1) (w.alloc (.cells #[.slice ao gs.length cap] 27))).alloc (by simp) (.cells #[.slice none 0 0] 27)
    exact (hb.block _ (by omega)).trans (heap_alloc_new w _)
  · rw [hg.block _ (by rw [z]; omega) (by simp)]
    have := heap_alloc_new (w.alloc (.cells #[.slice ao gs.length cap] 27)) (.cells #[.slice none 0 0] 27)
    simpa using this
  · rcases hown.2 with ⟨h, _⟩ | ⟨g, cp, cur, hv, _, hgh, _, _, hz, htk⟩
    · cases h
    · injection hv with h1 h2 h3
      injection h1 with h1
      injection h1 with h1
      subst h1 h3
      rw [made_b, ← pk_nil, Nat.mul_one] at htk
      have hl : cur.toList = pkV gs [] := by rw [← htk, List.take_of_length_le (by rw [Array.length_toList, hz]; omega)]
      rw [hgh, ← hl]
/-- the pairs of these names -/
def pckL (gs : List FB) (L : List ByteArray) : List FB := gs.filter fun x => inN L x.1
set_option maxRecDepth 100000 in
set_option maxHeartbeats 8000000 in
theorem Pick_c (ao an : Option Addr) (cap cpn : Nat) (gs : List FB) (ss : List ByteArray) (w : World) (hR : RdF (.slice ao gs.length cap) gs w) (hS : RdS (.slice an ss.length cpn) ss w) (ha : Asc gs) (ho : Onc gs) (hm : gs.length ≤ 1000) (hsm : ss.length ≤ 9223372036854775807) :
    Calls Tryd.prog 21 #[.agg #[.slice ao gs.length cap], .slice an ss.length cpn] w fun e w' => ∃ a2 c2, Pl a2 ∧ e = .returned (.agg #[.slice a2 (pckL gs ss).length c2]) ∧ RdF (.slice a2 (pckL gs ss).length c2) (pckL gs ss) w' ∧ Below w.heap.size w w' := by
  have HR := Lib.hid hR
  have HS := Lib.hid hS
  have HA := Lib.hid ha
  have HO := Lib.hid ho
  clear hR hS ha ho
  obtain ⟨i0, hi, hz0, hz1, hz2⟩ := info_parts infoBo
  obtain ⟨ip, hip, hpa, hpb, hpc⟩ := info_parts info2
  go_enter Tryd.func21, Tryd.ntmps21
  go_wp2_with (at_make; refine wpList_make_full _ rfl _ _ 74 rfl w.heap.size 4 i0 _ 1 Tryd.underlying74 hi hz0 hz1 _ _ _ _ gs.length rfl rfl rfl rfl (by rw [hz2]; omega) (by unfold maxLen; omega) (by simp; omega) ?_)
  intro w2 hown hg
  have HPK : Hid (PK w gs ao cap [] w2) := PK.new hown hg
  clear hown hg
  go_wp2
  go_loopw [19] (fun v wr => ∃ j : Nat, j ≤ ss.length ∧ v = .int .i64 j ∧ Hid (PK w gs ao cap (ss.take j) wr)) (fun v _ => ss.length - (intOf v).toNat)
  case atStart => exact ⟨0, by omega, rfl, HPK⟩
  case round =>
    clear HPK
    obtain ⟨j, hj, rfl, HPK⟩ := hrel
    by_cases hlt : j < ss.length
    · obtain ⟨g, off, rfl, hg, hat⟩ := rds_at (HS.out.go HPK.out.b) (by omega)
      have p0 := hat j hlt
      have HST : Hid (ss.take (j + 1) = ss.take j ++ [ss[j]]) := List.take_succ_eq_append_getElem hlt
      have hj0 : (0 : Int) ≤ (j : Int) := by omega
      have hjl : (j : Int) < (ss.length : Int) := by omega
      have d0 := HPK.out.s
      have HFC := Lib.hid (fun s => find_c ao cap gs s wr (HR.out.go HPK.out.b) HA.out hm)
      clear hat
      revert p0 HST
      generalize ss[j] = s
      intro p0 HST
      go_wp2_with fail
      refine (HFC.out s).mono ?_
      rintro e w3 ⟨i, b, rfl, hy, hn, hb⟩
      have HP3 := Lib.hid (HPK.out.go hb)
      clear HPK HFC p0 d0 hb
      cases b with
      | false =>
        have HP4 : Hid (PK w gs ao cap (ss.take (j + 1)) w3) := by
          show PK _ _ _ _ _ _
          have := HP3.out
          rw [HST.out]
          unfold PK at this ⊢
          rw [pk_no (hn rfl)]; exact this
        clear hy hn HP3
        go_wp2
        go_roundw
        case rel => exact ⟨j + 1, by omega, by go_num, HP4⟩
        case measure => simp [intOf]; omega
      | true =>
        obtain ⟨hi2, he⟩ := hy rfl
        have HP4 : Hid (PK w gs ao cap (ss.take (j + 1)) (w3.setCell ⟨w.heap.size + 1 + 1, i, none⟩ (.bool true))) := by
          show PK _ _ _ _ _ _
          rw [HST.out]
          exact HP3.out.set HO.out hi2 he
        obtain ⟨q0, z0⟩ := HP3.out.p hi2
        have hi0 : (0 : Int) ≤ (i : Int) := by omega
        have hil : (i : Int) < (gs.length : Int) := by omega
        clear hy hn HP3 he
        go_wp2
        go_roundw
        case rel => exact ⟨j + 1, by omega, by go_num, HP4⟩
        case measure => simp [intOf]; omega
    · have hte : ss.take j = ss := List.take_of_length_le (by omega)
      rw [hte] at HPK
      have d0 := HPK.out.s
      clear hte
      go_wp2
      clear d0
      have hlp : w.heap.size + 1 + 1 < wr.heap.size := (Array.getElem?_eq_some_iff.1 HPK.out.2.2.2).1
      go_loopw [10, 37] (fun pv v V => ∃ k : Nat, k ≤ gs.length ∧ v = .int .i64 k ∧ Hid (OwF 52 wr.heap.size pv (pckL (gs.take k) ss) V) ∧ Hid (Below wr.heap.size wr V)) (fun _ v _ => gs.length - (intOf v).toNat)
      case atStart => exact ⟨0, by omega, rfl, Lib.hid (World.ownsRow_nil _ _ _ _), Lib.hid (Below.refl _ _)⟩
      case round =>
        rename World => V
        obtain ⟨k, hk, rfl, HOW, HB⟩ := hrel
        obtain ⟨aop, cpp, hv⟩ := own_lenF HOW.out
        subst hv
        have HPV := Lib.hid (HPK.out.go HB.out)
        have hbz := HB.out.size
        by_cases hkt : k < gs.length
        · obtain ⟨g, off, rfl, hg, hat⟩ := rdf_at2 (HR.out.go HPV.out.b) (by omega)
          obtain ⟨p0, p1⟩ := hat k hkt
          obtain ⟨q0, _⟩ := HPV.out.p hkt
          have HST : Hid (pckL (gs.take (k + 1)) ss = pckL (gs.take k) ss ++ (if inN ss gs[k].1 = true then [gs[k]] else [])) := pck_snoc hkt
          have hk0 : (0 : Int) ≤ (k : Int) := by omega
          have hkl : (k : Int) < (gs.length : Int) := by omega
          have hgn : g ≠ V.heap.size := by omega
          have hpn : w.heap.size + 1 + 1 ≠ V.heap.size := by omega
          have hpl : w.heap.size + 1 + 1 < V.heap.size := by omega
          have HPL : Hid ((pckL (gs.take k) ss).length ≤ k) := by
            show _ ≤ _
            have h1 := List.length_filter_le (fun x : FB => inN ss x.1) (gs.take k)
            rw [List.length_take] at h1
            unfold pckL; omega
          clear hat
          obtain ⟨⟨x, y⟩, hxy⟩ : ∃ f : FB, gs[k] = f := ⟨_, rfl⟩
          rw [hxy] at p0 p1 q0 HST
          simp only at p0 p1 q0 HST
          clear hxy
          by_cases hin : inN ss x = true
          · rw [hin] at q0 HST
            rw [if_pos rfl] at HST
            revert HST HPL
            generalize pckL (gs.take k) ss = fs1 at HOW ⊢
            intro HPL HST
            obtain ⟨W1, hW1, hk1, hk0', hb1⟩ := new_two V (.string x) (.string y) 52 52
            have HW1 := Lib.hid hW1
            have HB1 : Hid (Below wr.heap.size wr W1) := HB.out.trans (hb1.mono HB.out.size)
            have IO := Lib.hid (HOW.out.go hb1)
            have DC := Lib.hid (two_cell hk1)
            have D3 : Hid (fs1.length + 1 ≤ maxLen) := by show _ ≤ _; unfold maxLen; have := HPL.out; omega
            have D4 : Hid ((fs1.length + 1) * 32 ≤ 140737488355328) := by show _ ≤ _; have := HPL.out; omega
            have E1 : Hid (wr.heap.size ≤ W1.heap.size) := HB1.out.size
            clear hW1 hk1 hk0' hb1
            go_wp2_with (at_builtin; rw [← HW1.out]; refine wpList_append_own _ rfl _ _ 23 rfl wr.heap.size 52 ip _ 2 32 Tryd.underlying23 hip hpa hpb hpc rfl (by decide) _ _ _ rfl IO.out ⟨V.heap.size + 1, 0, none⟩ 1 1 [.string x, .string y] rfl rfl DC.out two_ok D3.out D4.out E1.out ?_)
            intro v1 V1 hown1 hgrow1 _
            have HBV : Hid (Below wr.heap.size wr V1) := HB1.out.grown hgrow1 HB1.out.size (fun k hk => (IO.out.lt k hk).1)
            have JO : Hid (OwF 52 wr.heap.size v1 (pckL (gs.take (k + 1)) ss) V1) := by
              show OwF _ _ _ _ _
              rw [HST.out]; unfold OwF; rw [fC_snoc, List.length_append]
              exact hown1
            clear hown1 hgrow1
            go_wp2
            go_roundw
            case rel => exact ⟨k + 1, by omega, by go_num, JO, HBV⟩
            case measure => simp [intOf]; omega
          · have hin2 : inN ss x = false := by simpa using hin
            rw [hin2] at q0 HST
            rw [if_neg (by decide), List.append_nil] at HST
            revert HST
            generalize pckL (gs.take k) ss = fs1 at HOW ⊢
            intro HST
            have hba : Below V.heap.size V (V.alloc (.cells #[.string x, .string y] 52)) := (Below.refl _ _).alloc (Nat.le_refl _) _
            have JO : Hid (OwF 52 wr.heap.size (.slice aop fs1.length cpp) (pckL (gs.take (k + 1)) ss) (V.alloc (.cells #[.string x, .string y] 52))) := by
              show OwF _ _ _ _ _
              rw [HST.out]; exact HOW.out.go hba
            have HBV : Hid (Below wr.heap.size wr (V.alloc (.cells #[.string x, .string y] 52))) := HB.out.trans (hba.mono HB.out.size)
            clear hba hin hin2
            go_wp2
            go_roundw
            case rel => exact ⟨k + 1, by omega, by go_num, JO, HBV⟩
            case measure => simp [intOf]; omega
        · have hte : gs.take k = gs := List.take_of_length_le (by omega)
          rw [hte] at HOW ⊢
          have HRD := Lib.hid HOW.out.rd
          have hrb : V.heap[w.heap.size + 1]? = some (.cells #[.slice none 0 0] 27 (0, 0)) := HPV.out.2.2.1
          clear hte
          obtain ⟨fs1, hf⟩ : ∃ fs1, fs1 = pckL gs ss := ⟨_, rfl⟩
          rw [← hf] at HOW HRD ⊢
          have HF := Lib.hid hf
          clear hf
          have d0 := cell_of_row _ _ 0 _ _ _ hrb
          have z0 := frz hrb 0
          have e0 := cell_of_row _ _ 0 _ _ _ (set1 (.slice aop fs1.length cpp) hrb)
          have HBS : Hid (Below w.heap.size w (V.setCell ⟨w.heap.size + 1, 0, none⟩ (.slice aop fs1.length cpp))) := HPV.out.b.setCell (p := ⟨w.heap.size + 1, 0, none⟩) (Nat.le_succ _) _
          have HRS : Hid (RdF (.slice aop fs1.length cpp) fs1 (V.setCell ⟨w.heap.size + 1, 0, none⟩ (.slice aop fs1.length cpp))) := by
            refine ⟨aop, cpp, rfl, fun h0 => ?_⟩
            obtain ⟨g, off, e, hg, hat⟩ := rdf_at2 HRD.out h0
            obtain ⟨g2, cap2, cur2, hv2, hB2, _⟩ : ∃ g2 cap2 cur2, Value.slice aop fs1.length cpp = .slice (some ⟨g2, 0, none⟩) fs1.length cap2 ∧ wr.heap.size ≤ g2 ∧ cur2 = (0 : Nat) := by
              rcases HOW.out.2 with ⟨h, hz⟩ | ⟨g2, cap2, cur2, hv2, hB2, _⟩
              · omega
              · exact ⟨g2, cap2, 0, hv2, hB2, rfl⟩
            injection hv2 with h1 h2 h3
            have hgg : g = g2 := by rw [h1] at e; injection e with e; injection e with e; exact e.symm
            have hne : g ≠ w.heap.size + 1 := by omega
            refine ⟨g, off, e, by simpa using hg, fun i hi => ?_⟩
            obtain ⟨a0, a1⟩ := hat i hi
            exact ⟨by rw [World.cell?_setCell_other _ _ _ _ (by intro h; injection h with h; exact hne h.symm)]; exact a0, by rw [World.cell?_setCell_other _ _ _ _ (by intro h; injection h with h; exact hne h.symm)]; exact a1⟩
          clear hrb
          go_wp2
          (with_reducible refine bodyPost_ret (v := .agg #[.slice aop fs1.length cpp]) (by simp [results, Tryd.results21, go_sem, e0]) rfl ⟨aop, cpp, HOW.out.pl, by rw [← HF.out], by rw [← HF.out]; exact HRS.out, HBS.out⟩)
end Go.Proofs.YtjgbfpkjkglfnaaDoor.Lb
namespace Go.Proofs.YtjgbfpkjkglfnaaDoor.Lb
open Go.RowKit Ch Jt Go.ChangeShapes Go.WideShapes
set_option linter.unusedSimpArgs false
set_option linter.unusedVariables false

def IsStrs (w : World) (a : Option Addr) (len : Nat) (ts : List ByteArray) : Prop := ts.length = len ∧ len ≤ maxLen ∧ (∀ t ∈ ts, t.size ≤ maxLen) ∧
  (ts ≠ [] → ∃ b off, a = some ⟨b, off, none⟩ ∧ b < w.heap.size ∧ ∀ i (hi : i < ts.length), w.cell? ⟨b, off + i, none⟩ = some (.string ts[i]))
theorem strs_of {H : Type} {enc : TypeId × Value → H} {W : World} {a : Option Addr} {len cap : Nat} {d : DataW H} {p : List MemPlace} (h : DataW.Trod enc Tryd.prog W 0 (fun _ => true) true 46 (.slice a len cap) d p) : ∃ ts, IsStrs W a len ts := by
  obtain ⟨fuel, hf⟩ := h
  rcases Deep.open_strs Tryd.underlying46 Tryd.underlying9 (by kernel_rfl) hf with ⟨hcs, _⟩ | ⟨x, l, c, m, Sx, hcs, hb, hl, hm, hmm, _, hx⟩
  · simp [Value.cells] at hcs
    obtain ⟨rfl, rfl, rfl⟩ := hcs
    exact ⟨[], rfl, by unfold maxLen; omega, fun t ht => by simp at ht, fun h => absurd rfl h⟩
  · simp [Value.cells] at hcs
    obtain ⟨rfl, rfl, rfl⟩ := hcs
    have hlm : len ≤ m := by rw [hmm]; simp; exact hl
    refine ⟨(List.range len).map Sx, by simp, Nat.le_trans hl hm, fun t ht => ?_, fun hne => ?_⟩
    · obtain ⟨i, hi, rfl⟩ := List.mem_map.1 ht
      exact (hx i (by have := List.mem_range.1 hi; omega)).2
    · have hp : 0 < len := by
        rcases Nat.eq_zero_or_pos len with h | h
        · subst h; simp at hne
        · exact h
      obtain ⟨b, off, spot⟩ := x
      have hc := (hx 0 (by omega)).1
      have hspot : spot = none := by simpa [Addr.add] using World.cell?_spot hc
      subst hspot
      have e : ∀ j, (⟨b, off, none⟩ : Addr).add j = ⟨b, off + j, none⟩ := fun j => by unfold Addr.add; split <;> simp_all
      refine ⟨b, off, rfl, ?_, fun i hi => ?_⟩
      · have := World.block_lt_of_cell? W _ hc
        simpa [Addr.add] using this
      · have hi' : i < len := by simpa using hi
        have h0 := (hx i (by omega)).1
        rw [e] at h0
        simp only [List.getElem_map, List.getElem_range]
        exact h0
theorem IsStrs.rd {w : World} {a : Option Addr} {cap : Nat} {ts : List ByteArray} (h : IsStrs w a ts.length ts) : RdS (.slice a ts.length cap) ts w :=
  ⟨a, cap, rfl, fun h0 => h.2.2.2 (by intro e; rw [e] at h0; exact absurd h0 (Nat.lt_irrefl _))⟩
theorem ofz_cases (fs : List FB) : (ofZ fs = 0 ∧ Asc (ofA fs) ∧ Onc (ofA fs)) ∨ ((ofZ fs = 3 ∨ ofZ fs = 10) ∧ ofA fs = []) := by
  unfold ofZ ofA
  by_cases hb : fs.any badB = true
  · simp [hb]
  · by_cases ho : Onc fs
    · rw [if_neg hb, if_pos ho, if_neg hb, if_pos ho]
      exact .inl ⟨rfl, srt_asc fs, (onc_iff (srt_perm fs)).2 ho⟩
    · simp [hb, ho]
theorem pck_none (gs : List FB) : pckL gs [] = [] := by
  unfold pckL inN
  simp
/-- is it one of the first k names? -/
theorem in_step {ss : List ByteArray} {k : Nat} (hk : k < ss.length) (s : ByteArray) : inN (ss.take (k + 1)) s = (inN (ss.take k) s || decide (ss[k] = s)) := by
  rw [List.take_succ_eq_append_getElem hk, inN_snoc]
set_option maxRecDepth 100000 in
set_option maxHeartbeats 16000000 in
theorem walkP (a : Option Addr) (len cap : Nat) (ts : List FB) (an : Option Addr) (lenn cpn : Nat) (ss : List ByteArray) (w : World) (hP : IsPrs w a len ts) (hS : IsStrs w an lenn ss) (hE : Ev w) :
    Calls Tryd.prog 4 #[.slice a len cap, .slice an lenn cpn] w fun e w' => e = .returned (.bool true) ∧ Below w.heap.size w w' := by
  obtain rfl := hP.1
  obtain rfl := hS.1
  have hsm := hS.2.1
  unfold maxLen at hsm
  have HS := Lib.hid (IsStrs.rd (cap := cpn) hS)
  have HPC := Lib.hid (Pairs_c a cap ts w hP)
  have HE := Lib.hid hE
  clear hP hE hS
  have hf6 := prK_len ts (Nat.le_refl 6)
  have HSF : Hid (∀ x ∈ prK ts 6, x.1.size ≤ 20 ∧ x.2.size ≤ 30) := fun x hx => prK_short hx
  revert HPC hf6 HSF
  generalize prK ts 6 = fs
  intro HPC hf6 HSF
  obtain ⟨ir, hir, hra, hrb, hrc⟩ := info_parts infoR
  go_enter Tryd.func4, Tryd.ntmps4
  go_wp2_with fail
  refine HPC.out.mono ?_
  rintro e w1 ⟨vo, vw, rfl, ho, _, hb1⟩
  have HB1 := Lib.hid hb1
  have HSS : Hid (∀ x ∈ fs, smallF x) := fun x hx => by have := HSF.out x hx; exact ⟨by omega, by omega⟩
  obtain ⟨ao, cpo, hv⟩ := own_lenF ho
  subst hv
  have HOF1 := Lib.hid (Of_c (.slice ao fs.length cpo) fs w1 (HE.out.go HB1.out) ho.rd (by omega) HSS.out)
  clear hb1 ho HPC
  go_wp2_with fail
  (with_reducible refine HOF1.out.mono ?_)
  intro e w3 h3
  obtain ⟨a1, c1, hpl, rfl, hr1, hb3⟩ := of_uni h3
  have HB3 : Hid (Below w.heap.size w w3) := HB1.out.trans (hb3.mono HB1.out.size)
  obtain ⟨W3, hW3, hk3, hbw3⟩ : ∃ W3, W3 = w3.alloc (.cells #[.slice a1 (ofA fs).length c1] 27) ∧ W3.heap[w3.heap.size]? = some (.cells #[.slice a1 (ofA fs).length c1] 27 (0, 0)) ∧ Below w3.heap.size w3 W3 := ⟨_, rfl, heap_alloc_new w3 _, (Below.refl _ _).alloc (Nat.le_refl _) _⟩
  have hl3 : w3.heap.size < W3.heap.size := (Array.getElem?_eq_some_iff.1 hk3).1
  have HBW3 : Hid (Below w.heap.size w W3) := HB3.out.trans (hbw3.mono HB3.out.size)
  have HR3 := Lib.hid (hr1.go hbw3)
  have HW3 := Lib.hid hW3
  have HK3 := Lib.hid hk3
  have hgl := ofA_len fs
  have HPL := Lib.hid hpl
  have HZC := Lib.hid (ofz_cases fs)
  clear h3 hr1 hb3 HOF1 hW3 hk3 hbw3 HB3 HB1 hpl
  revert HR3 HK3 hgl HW3 HZC
  generalize ofA fs = gs
  generalize ofZ fs = z
  intro HR3 HW3 HK3 hgl HZC
  have d0 := cell_of_row _ _ 0 _ _ _ HK3.out
  rcases HZC.out with ⟨rfl, ha, ho⟩ | ⟨hz, rfl⟩
  · have HA := Lib.hid ha
    have HO := Lib.hid ho
    clear ha ho HZC
    have HPN := Lib.hid (Plain_c a1 c1 gs W3 HR3.out HPL.out (by omega))
    go_wp2_with fail
    rw [← HW3.out]
    clear HW3
    refine HPN.out.mono ?_
    rintro e w4 ⟨v4, rfl, ho4, hb4⟩
    obtain ⟨a4, c4, hv⟩ := own_lenF ho4
    subst hv
    have HR4 := Lib.hid ho4.rd
    have HB4 : Hid (Below w.heap.size w w4) := HBW3.out.trans (hb4.mono HBW3.out.size)
    have HK4 : Hid (w4.heap[w3.heap.size]? = some (.cells #[.slice a1 gs.length c1] 27 (0, 0))) := (hb4.block _ hl3).trans HK3.out
    have HRS4 := Lib.hid (HR3.out.go hb4)
    clear ho4 hb4 HPN HK3 HR3 d0
    go_wp2
    go_loopw [9, 36] (fun wv v V => ∃ k : Nat, k ≤ gs.length ∧ v = .int .i64 k ∧ Hid (OwF 48 w4.heap.size wv (pckL (gs.take k) ss) V) ∧ Hid (Below w4.heap.size w4 V)) (fun _ v _ => gs.length - (intOf v).toNat)
    case atStart => exact ⟨0, by omega, rfl, Lib.hid (World.ownsRow_nil _ _ _ _), Lib.hid (Below.refl _ _)⟩
    case round =>
      rename World => V
      obtain ⟨k, hk, rfl, HOW, HB⟩ := hrel
      obtain ⟨aop, cpp, hv⟩ := own_lenF HOW.out
      subst hv
      have hbz := HB.out.size
      have HBV : Hid (Below w.heap.size w V) := HB4.out.trans (HB.out.mono HB4.out.size)
      by_cases hkt : k < gs.length
      · obtain ⟨g, off, rfl, hg, hat⟩ := rdf_at2 (HR4.out.go HB.out) (by omega)
        obtain ⟨p0, p1⟩ := hat k hkt
        have HST : Hid (pckL (gs.take (k + 1)) ss = pckL (gs.take k) ss ++ (if inN ss gs[k].1 = true then [gs[k]] else [])) := pck_snoc hkt
        have hk0 : (0 : Int) ≤ (k : Int) := by omega
        have hkl : (k : Int) < (gs.length : Int) := by omega
        have hgn : g ≠ V.heap.size := by omega
        have HPL : Hid ((pckL (gs.take k) ss).length ≤ k) := by
          show _ ≤ _
          have h1 := List.length_filter_le (fun x : FB => inN ss x.1) (gs.take k)
          rw [List.length_take] at h1
          unfold pckL; omega
        clear hat
        obtain ⟨⟨x, y⟩, hxy⟩ : ∃ f : FB, gs[k] = f := ⟨_, rfl⟩
        rw [hxy] at p0 p1 HST
        simp only at p0 p1 HST
        clear hxy
        obtain ⟨WX, hWX, hkX, hbX⟩ : ∃ WX, WX = V.alloc (.cells #[.string x, .string y] 48) ∧ WX.heap[V.heap.size]? = some (.cells #[.string x, .string y] 48 (0, 0)) ∧ Below V.heap.size V WX := ⟨_, rfl, heap_alloc_new V _, (Below.refl _ _).alloc (Nat.le_refl _) _⟩
        have HWX := Lib.hid hWX
        have HKX := Lib.hid hkX
        have HLX : Hid (V.heap.size < WX.heap.size) := (Array.getElem?_eq_some_iff.1 hkX).1
        have HBX : Hid (Below w4.heap.size w4 WX) := HB.out.trans (hbX.mono HB.out.size)
        have HBWX : Hid (Below w.heap.size w WX) := HBV.out.trans (hbX.mono HBV.out.size)
        have HOX := Lib.hid (HOW.out.go hbX)
        clear hWX hkX hbX
        go_wp2
        rw [← HWX.out]
        clear HWX p0 p1
        go_loopw [12, 42] (fun iv v Y => ∃ j : Nat, j ≤ ss.length ∧ v = .int .i64 j ∧ iv = .bool (inN (ss.take j) x) ∧ Hid (Below WX.heap.size WX Y)) (fun _ v _ => ss.length - (intOf v).toNat)
        case atStart => exact ⟨0, by omega, rfl, rfl, Lib.hid (Below.refl _ _)⟩
        case round =>
          rename World => Y
          obtain ⟨j, hj, rfl, rfl, HBY⟩ := hrel
          have HKY : Hid (Y.heap[V.heap.size]? = some (.cells #[.string x, .string y] 48 (0, 0))) := (HBY.out.block _ HLX.out).trans HKX.out
          have HBWY : Hid (Below w.heap.size w Y) := HBWX.out.trans (HBY.out.mono HBWX.out.size)
          by_cases hjt : j < ss.length
          · obtain ⟨g2, off2, rfl, hg2, hat2⟩ := rds_at (HS.out.go HBWY.out) (by omega)
            have q0 := hat2 j hjt
            obtain ⟨x0, _⟩ := cell2 HKY.out
            have HIN := Lib.hid (in_step hjt x)
            have hj0 : (0 : Int) ≤ (j : Int) := by omega
            have hjl : (j : Int) < (ss.length : Int) := by omega
            clear hat2
            cases hb : inN (ss.take j) x with
            | true =>
              have HIN2 : Hid (inN (ss.take (j + 1)) x = true) := by show _ = _; rw [HIN.out, hb]; rfl
              clear hb HIN
              go_wp2
              go_roundw
              case rel => exact ⟨j + 1, by omega, by go_num, by rw [HIN2.out], HBY⟩
              case measure => simp [intOf]; omega
            | false =>
              rw [hb, Bool.false_or] at HIN
              clear hb
              by_cases he : ss[j] = x
              · rw [decide_eq_true he] at HIN
                rw [he] at q0
                clear he
                go_wp2
                go_roundw
                case rel => exact ⟨j + 1, by omega, by go_num, by rw [HIN.out], HBY⟩
                case measure => simp [intOf]; omega
              · rw [decide_eq_false he] at HIN
                have hne : (ss[j].toList == x.toList) = false := by
                  rw [Lib.toList_data, Lib.toList_data]
                  exact beq_eq_false_iff_ne.2 (fun h => he (ba_ext h))
                clear he
                revert q0 hne
                generalize ss[j] = s
                intro q0 hne
                go_wp2
                go_roundw
                case rel => exact ⟨j + 1, by omega, by go_num, by rw [HIN.out], HBY⟩
                case measure => simp [intOf]; omega
          · have hte : ss.take j = ss := List.take_of_length_le (by omega)
            rw [hte]
            clear hte
            have HOY := Lib.hid (HOX.out.go HBY.out)
            have HBY4 : Hid (Below w4.heap.size w4 Y) := HBX.out.trans (HBY.out.mono HBX.out.size)
            obtain ⟨e0, e1⟩ := cell2 HKY.out
            cases hb : inN ss x with
            | true =>
              rw [hb, if_pos rfl] at HST
              obtain ⟨fs1, hf1⟩ : ∃ fs1, fs1 = pckL (gs.take k) ss := ⟨_, rfl⟩
              rw [← hf1] at HOY HST HPL ⊢
              obtain ⟨W5, hW5, hk5, hb5⟩ : ∃ W5, W5 = Y.alloc (.cells #[.string x, .string y] 48) ∧ W5.heap[Y.heap.size]? = some (.cells #[.string x, .string y] 48 (0, 0)) ∧ Below Y.heap.size Y W5 := ⟨_, rfl, heap_alloc_new Y _, (Below.refl _ _).alloc (Nat.le_refl _) _⟩
              have HW5 := Lib.hid hW5
              have HB5 : Hid (Below w4.heap.size w4 W5) := HBY4.out.trans (hb5.mono HBY4.out.size)
              have IO := Lib.hid (HOY.out.go hb5)
              have DC := Lib.hid (two_cell hk5)
              have D3 : Hid (fs1.length + 1 ≤ maxLen) := by show _ ≤ _; unfold maxLen; have := HPL.out; omega
              have D4 : Hid ((fs1.length + 1) * 32 ≤ 140737488355328) := by show _ ≤ _; have := HPL.out; omega
              have E1 : Hid (w4.heap.size ≤ W5.heap.size) := HB5.out.size
              clear hW5 hk5 hb5 hb hf1
              go_wp2_with (at_builtin; rw [← HW5.out]; refine wpList_append_own _ rfl _ _ 22 rfl w4.heap.size 48 ir _ 2 32 Tryd.underlying22 hir hra hrb hrc rfl (by decide) _ _ _ rfl IO.out ⟨Y.heap.size, 0, none⟩ 1 1 [.string x, .string y] rfl rfl DC.out two_ok D3.out D4.out E1.out ?_)
              intro v1 V1 hown1 hgrow1 _
              have HBV1 : Hid (Below w4.heap.size w4 V1) := HB5.out.grown hgrow1 HB5.out.size (fun k hk => (IO.out.lt k hk).1)
              have JO : Hid (OwF 48 w4.heap.size v1 (pckL (gs.take (k + 1)) ss) V1) := by
                show OwF _ _ _ _ _
                rw [HST.out]; unfold OwF; rw [fC_snoc, List.length_append]
                exact hown1
              clear hown1 hgrow1
              go_wp2
              go_roundw
              case rel => exact ⟨k + 1, by omega, by go_num, JO, HBV1⟩
              case measure => simp [intOf]; omega
            | false =>
              rw [hb, if_neg (by decide), List.append_nil] at HST
              have JO : Hid (OwF 48 w4.heap.size (.slice aop (pckL (gs.take k) ss).length cpp) (pckL (gs.take (k + 1)) ss) Y) := by
                show OwF _ _ _ _ _
                rw [HST.out]; exact HOY.out
              clear hb
              go_wp2
              go_roundw
              case rel => exact ⟨k + 1, by omega, by go_num, JO, HBY4⟩
              case measure => simp [intOf]; omega
      · have hte : gs.take k = gs := List.take_of_length_le (by omega)
        rw [hte] at HOW ⊢
        clear hte
        have HKV : Hid (V.heap[w3.heap.size]? = some (.cells #[.slice a1 gs.length c1] 27 (0, 0))) := (HB.out.block _ (Array.getElem?_eq_some_iff.1 HK4.out).1).trans HK4.out
        have d0 := cell_of_row _ _ 0 _ _ _ HKV.out
        have HRV := Lib.hid (HRS4.out.go HB.out)
        have HSV := Lib.hid (HS.out.go HBV.out)
        have HWV := Lib.hid HOW.out.rd
        have hpl : (pckL gs ss).length ≤ 1000 := Nat.le_trans (List.length_filter_le _ _) (by omega)
        have HPK := Lib.hid (Pick_c a1 an c1 cpn gs ss V HRV.out HSV.out HA.out HO.out (by omega) (by omega))
        have HPK2 := Lib.hid (fun W h1 => Pick_c a1 none c1 0 gs [] W h1 ⟨none, 0, rfl, fun h => absurd h (Nat.lt_irrefl _)⟩ HA.out HO.out (by omega) (by simp))
        rw [pck_none] at HPK2
        revert hpl HPK HWV
        generalize pckL gs ss = fw
        intro HWV hpl HPK
        go_wp2_with fail
        refine HPK.out.mono ?_
        rintro e w5 ⟨a2, c2, hp2, rfl, hr2, hb5⟩
        have HB5 : Hid (Below w.heap.size w w5) := HBV.out.trans (hb5.mono HBV.out.size)
        have HK5 : Hid (w5.heap[w3.heap.size]? = some (.cells #[.slice a1 gs.length c1] 27 (0, 0))) := (hb5.block _ (Array.getElem?_eq_some_iff.1 HKV.out).1).trans HKV.out
        have HRV5 := Lib.hid (HRV.out.go hb5)
        have HW5 := Lib.hid (HWV.out.go hb5)
        have HPN := Lib.hid (Plain_c a2 c2 fw w5 hr2 hp2 hpl)
        clear hb5 hr2 hp2 d0 HPK HKV HRV HWV
        go_wp2_with fail
        refine HPN.out.mono ?_
        rintro e w6 ⟨v6, rfl, ho6, hb6⟩
        obtain ⟨a6, c6, hv6⟩ := own_lenF ho6
        subst hv6
        have HB6 : Hid (Below w.heap.size w w6) := HB5.out.trans (hb6.mono HB5.out.size)
        have HK6 : Hid (w6.heap[w3.heap.size]? = some (.cells #[.slice a1 gs.length c1] 27 (0, 0))) := (hb6.block _ (Array.getElem?_eq_some_iff.1 HK5.out).1).trans HK5.out
        have HRV6 := Lib.hid (HRV5.out.go hb6)
        have HSM := Lib.hid (RSame_c a6 aop c6 cpp fw w6 ho6.rd (HW5.out.go hb6) hpl)
        clear hb6 ho6 HPN HK5 HRV5 HW5
        go_wp2_with fail
        refine HSM.out.mono ?_
        rintro e w7 ⟨rfl, hb7⟩
        have HB7 : Hid (Below w.heap.size w w7) := HB6.out.trans (hb7.mono HB6.out.size)
        have HK7 : Hid (w7.heap[w3.heap.size]? = some (.cells #[.slice a1 gs.length c1] 27 (0, 0))) := (hb7.block _ (Array.getElem?_eq_some_iff.1 HK6.out).1).trans HK6.out
        have HRV7 := Lib.hid (HRV6.out.go hb7)
        have d7 := cell_of_row _ _ 0 _ _ _ HK7.out
        clear hb7 HSM HK6 HRV6
        go_wp2_with fail
        refine (HPK2.out w7 HRV7.out).mono ?_
        rintro e w8 ⟨a8, c8, _, rfl, hr8, hb8⟩
        have HB8 : Hid (Below w.heap.size w w8) := HB7.out.trans (hb8.mono HB7.out.size)
        have HSE := Lib.hid (Same_c a8 none c8 0 [] [] w8 hr8 ⟨none, 0, rfl, fun h => absurd h (Nat.lt_irrefl _)⟩ (by simp) (by simp))
        rw [decide_eq_true (rfl : ([] : List FB) = [])] at HSE
        clear hb8 hr8 d7 HPK2 HK7 HRV7
        go_wp2_with fail
        refine HSE.out.mono ?_
        rintro e w9 ⟨rfl, hb9⟩
        have HB9 : Hid (Below w.heap.size w w9) := HB8.out.trans (hb9.mono HB8.out.size)
        have HAW := Lib.hid (awake_c w9 (HE.out.go HB9.out))
        clear hb9 HSE
        go_wp2_with fail
        refine HAW.out.mono ?_
        rintro e w10 ⟨rfl, hb10⟩
        have HB10 : Hid (Below w.heap.size w w10) := HB9.out.trans (hb10.mono HB9.out.size)
        clear hb10 HAW
        go_wp2
        go_ret
        exact ⟨rfl, HB10.out⟩
  · have HLN := Lib.hid (Len_c a1 0 c1 W3 (by decide))
    have hz0 : z ≠ 0 := by rcases hz with h | h <;> omega
    have hzd : (z == 0) = false := beq_eq_false_iff_ne.2 hz0
    have hzd2 : (z != 0) = true := by simp [hz0]
    rw [show ([] : List FB).length = 0 from rfl] at HW3
    clear HZC hz
    go_wp2_with fail
    rw [← HW3.out]
    clear HW3
    refine HLN.out.mono ?_
    rintro e w5 ⟨rfl, hb5⟩
    have HB5 : Hid (Below w.heap.size w w5) := HBW3.out.trans (hb5.mono HBW3.out.size)
    clear hb5 HLN d0
    have HAW := Lib.hid (awake_c w5 (HE.out.go HB5.out))
    go_wp2_with fail
    refine HAW.out.mono ?_
    rintro e w6 ⟨rfl, hb6⟩
    have HB6 : Hid (Below w.heap.size w w6) := HB5.out.trans (hb6.mono HB5.out.size)
    clear hb6 HAW
    go_wp2
    go_ret
    exact ⟨rfl, HB6.out⟩
end Go.Proofs.YtjgbfpkjkglfnaaDoor.Lb
namespace Go.Proofs.YtjgbfpkjkglfnaaDoor.Lb
open Go.RowKit Ch Jt
set_option linter.unusedSimpArgs false
set_option linter.unusedVariables false

theorem int_beq (a b : Nat) : ((a : Int) == (b : Int)) = decide (a = b) := by
  by_cases h : a = b
  · subst h; simp
  · rw [decide_eq_false h, beq_eq_false_iff_ne]; omega
def okA (i : Nat) (c : Int) : Bool := letB c || decide (c = 95) || (decide (i ≠ 0) && digB c)
theorem nam_iff (s : ByteArray) : namB s.data.toList = true ↔ 0 < s.size ∧ ∀ i (h : i < s.size), okA i (s[i].toNat : Int) = true := by
  constructor
  · intro h
    by_cases h0 : 0 < s.size
    · refine ⟨h0, fun i hi => ?_⟩
      rw [(nam_ne h0).1] at h
      simp only [Bool.and_eq_true, Bool.not_eq_true'] at h
      have h2 : inB (s[i].toNat : Int) = true := by
        have := h.2
        unfold inBL at this
        rw [List.all_eq_true] at this
        exact this s[i] (by rw [← gdat s i hi]; exact List.getElem_mem _)
      unfold inB at h2
      unfold okA
      by_cases hi0 : i = 0
      · subst hi0
        rw [h.1] at h2 ⊢
        simpa using h2
      · cases hl : letB (s[i].toNat : Int) <;> cases hd : digB (s[i].toNat : Int) <;> simp_all
    · rw [emp h0] at h; cases h
  · rintro ⟨h0, h⟩
    rw [(nam_ne h0).1]
    have h1 := h 0 h0
    have hd : digB (s[0].toNat : Int) = false := by
      unfold okA at h1
      simp only [ne_eq, not_true_eq_false, decide_false, Bool.false_and, Bool.or_false] at h1
      unfold digB
      rw [decide_eq_false_iff_not]
      intro hh
      unfold letB at h1
      rw [Bool.or_eq_true, decide_eq_true_eq, decide_eq_true_eq] at h1
      omega
    rw [hd]
    simp only [Bool.not_false, Bool.true_and]
    unfold inBL
    rw [List.all_eq_true]
    intro c hc
    obtain ⟨i, hi, rfl⟩ := List.mem_iff_getElem.1 hc
    have hi' : i < s.size := by rw [Lib.size_eq]; exact hi
    have h2 := h i hi'
    rw [gdat s i hi']
    unfold okA at h2
    unfold inB
    cases hl : letB (s[i].toNat : Int) <;> cases hdd : digB (s[i].toNat : Int) <;> simp_all
set_option maxRecDepth 100000 in
set_option maxHeartbeats 4000000 in
theorem NameR_c (s : ByteArray) (w : World) (hs : s.size ≤ 9223372036854775807) : Calls Tryd.prog 19 #[.string s] w fun e w' => e = .returned (.bool (namB s.data.toList)) ∧ w = w' := by
  have HI := Lib.hid (nam_iff s)
  generalize namB s.data.toList = nb at HI ⊢
  go_enter Tryd.func19, Tryd.ntmps19
  go_wp2
  go_loop [3] (fun i => ∃ k : Nat, k ≤ s.size ∧ i = .int .i64 k ∧ Hid (∀ i (h : i < s.size), i < k → okA i (s[i].toNat : Int) = true)) (fun i => s.size - (intOf i).toNat)
  case atStart => exact ⟨0, by omega, rfl, Lib.hid (fun i _ h => absurd h (Nat.not_lt_zero _))⟩
  case round =>
    obtain ⟨k, hk, rfl, HA⟩ := hrel
    by_cases hlt : k < s.size
    · have h0 : 0 ≤ ((s[k].toNat : Nat) : Int) := by omega
      have h1 : ((s[k].toNat : Nat) : Int) ≤ 255 := by have := s[k].toNat_lt; omega
      have hk0 : (0 : Int) ≤ (k : Int) := by omega
      have HL := Lib.hid (fun W => let_r (s[k].toNat : Int) W h0 h1)
      have HD := Lib.hid (fun W => dig_r (s[k].toNat : Int) W h0 h1)
      have HS : Hid (okA k (s[k].toNat : Int) = true → ∀ i (h : i < s.size), i < k + 1 → okA i (s[i].toNat : Int) = true) := fun hh i hi hlt2 => by
        rcases Nat.lt_succ_iff_lt_or_eq.1 hlt2 with g | g
        · exact HA.out i hi g
        · subst g; exact hh
      have HF : Hid (okA k (s[k].toNat : Int) = false → nb = false) := fun hh => by
        cases hn : nb with
        | false => rfl
        | true => rw [(HI.out.1 hn).2 k hlt] at hh; cases hh
      unfold okA at HS HF
      revert HL HD HS HF h0 h1
      generalize hc : s[k] = ch
      intro h0 h1 HL HD HS HF
      cases hl : letB (ch.toNat : Int) with
      | true =>
        rw [hl] at HL HS
        have HS2 := Lib.hid (HS.out (by simp))
        clear hl HS HF HD
        go_wp2_with (go_at_call 39; refine (HL.out _).mono ?_; rintro e w' ⟨rfl, hw⟩; rw [← hw]; clear hw)
        go_round
        case rel => exact ⟨k + 1, by omega, by go_num, HS2⟩
        case measure => simp [intOf]; omega
      | false =>
        rw [hl] at HL HS HF
        by_cases h95 : (ch.toNat : Int) = 95
        · have HS2 := Lib.hid (HS.out (by simp [h95]))
          have hq : (((ch.toNat : Nat) : Int) == 95) = true := by rw [h95]; rfl
          have hq2 : (((ch.toNat : Nat) : Int) != 95) = false := by rw [h95]; rfl
          clear hl HS HF HD h95
          go_wp2_with (go_at_call 39; refine (HL.out _).mono ?_; rintro e w' ⟨rfl, hw⟩; rw [← hw]; clear hw)
          go_round
          case rel => exact ⟨k + 1, by omega, by go_num, HS2⟩
          case measure => simp [intOf]; omega
        · have hq : (((ch.toNat : Nat) : Int) == 95) = false := beq_eq_false_iff_ne.2 h95
          have hq2 : (((ch.toNat : Nat) : Int) != 95) = true := by rw [bne, hq]; rfl
          by_cases hz : k = 0
          · have HF2 := Lib.hid (HF.out (by simp [h95, hz]))
            have hz' : (k : Int) = 0 := by omega
            have hz2 : ((k : Int) == 0) = true := by simp [hz]
            clear hz'
            clear hl HS HF HD h95 hz
            go_wp2_with (go_at_call 39; refine (HL.out _).mono ?_; rintro e w' ⟨rfl, hw⟩; rw [← hw]; clear hw)
            go_ret
            exact ⟨Ch.ret_bool HF2.out.symm, rfl⟩
          · have hz' : ¬ (k : Int) = 0 := by omega
            have hz2 : ((k : Int) == 0) = false := beq_eq_false_iff_ne.2 hz'
            cases hd : digB (ch.toNat : Int) with
            | true =>
              rw [hd] at HD HS
              have HS2 := Lib.hid (HS.out (by simp [hz]))
              clear hl hd HS HF h95 hz
              go_wp2_with (first
                | (go_at_call 39; refine (HL.out _).mono ?_; rintro e w' ⟨rfl, hw⟩; rw [← hw]; clear hw)
                | (go_at_call 40; refine (HD.out _).mono ?_; rintro e w' ⟨rfl, hw⟩; rw [← hw]; clear hw))
              go_round
              case rel => exact ⟨k + 1, by omega, by go_num, HS2⟩
              case measure => simp [intOf]; omega
            | false =>
              rw [hd] at HD HF
              have HF2 := Lib.hid (HF.out (by simp [h95]))
              clear hl hd HS HF h95 hz
              go_wp2_with (first
                | (go_at_call 39; refine (HL.out _).mono ?_; rintro e w' ⟨rfl, hw⟩; rw [← hw]; clear hw)
                | (go_at_call 40; refine (HD.out _).mono ?_; rintro e w' ⟨rfl, hw⟩; rw [← hw]; clear hw))
              go_ret
              exact ⟨Ch.ret_bool HF2.out.symm, rfl⟩
    · by_cases hz : 0 < s.size
      · have HT : Hid (nb = true) := HI.out.2 ⟨hz, fun i h => HA.out i h (by omega)⟩
        have he := (nam_ne hz).2.1
        go_wp2
        go_ret
        exact ⟨Ch.ret_bool (by first | (rw [HT.out]; done) | (rw [HT.out]; simp)), rfl⟩
      · have hs0 : s = ⟨#[]⟩ := emp hz
        have HT : Hid (nb = false) := by
          show _ = _
          cases hn : nb with
          | false => rfl
          | true => exact absurd (HI.out.1 hn).1 hz
        have he : s.toList.isEmpty = true := by rw [hs0, Lib.toList_data]; rfl
        clear hs0
        go_wp2
        go_ret
        exact ⟨Ch.ret_bool (by first | (rw [HT.out]; done) | (rw [HT.out]; simp)), rfl⟩
set_option maxRecDepth 100000 in
set_option maxHeartbeats 2000000 in
theorem valR_c (s : ByteArray) (w : World) (hs : s.size ≤ 1000) : Calls Tryd.prog 29 #[.string s] w fun e w' => e = .returned (.bool (valB s.data.toList)) ∧ Below w.heap.size w w' := by
  have HW := Lib.hid (Ut.walk_r s w hs)
  have HV : Hid (vldB s.data.toList = decide ((Ut.walkL (Ut.nums s)).2 = s.size)) := by
    show vldB s.data.toList = _
    unfold vldB
    rw [Lib.size_eq]; rfl
  by_cases h0 : 0 < s.size
  · obtain ⟨_, he, hn⟩ := nam_ne h0
    have e : valB s.data.toList = vldB s.data.toList := by unfold valB; rw [hn]; rfl
    rw [e, HV.out]
    clear e hn HV
    unfold Ut.tup2 at HW
    generalize (Ut.walkL (Ut.nums s)).1 = n1 at HW
    generalize (Ut.walkL (Ut.nums s)).2 = n2 at HW ⊢
    go_enter Tryd.func29, Tryd.ntmps29
    go_wp2_with (go_at_call 47; refine HW.out.mono ?_; rintro e w' ⟨rfl, hb⟩; have HB := Lib.hid hb; clear hb)
    go_ret
    exact ⟨Ch.ret_bool (int_beq _ _), HB.out⟩
  · obtain rfl := emp h0
    show Calls _ _ _ _ fun e w' => e = .returned (.bool false) ∧ _
    clear h0 hs HV
    unfold Ut.tup2 at HW
    go_enter Tryd.func29, Tryd.ntmps29
    go_wp2_with (go_at_call 47; refine HW.out.mono ?_; rintro e w' ⟨rfl, hb⟩; have HB := Lib.hid hb; clear hb)
    go_ret
    exact ⟨rfl, HB.out⟩
/-- the value of a name -/
def getL (gs : List FB) (s : ByteArray) : ByteArray := match gs.find? fun x => decide (x.1 = s) with | some x => x.2 | none => ⟨#[]⟩
theorem get_at {gs : List FB} {s : ByteArray} (ho : Onc gs) {i : Nat} (hi : i < gs.length) (h : gs[i].1 = s) : getL gs s = gs[i].2 := by
  unfold getL
  cases hf : gs.find? fun x => decide (x.1 = s) with
  | none => exact absurd (decide_eq_true h) (List.find?_eq_none.1 hf gs[i] (List.getElem_mem hi))
  | some x =>
    have hx := List.mem_of_find?_eq_some hf
    have hp := List.find?_some hf
    rw [decide_eq_true_eq] at hp
    rw [onc_inj ho hx (List.getElem_mem hi) (hp.trans h.symm)]
theorem get_no {gs : List FB} {s : ByteArray} (h : ∀ x ∈ gs, x.1 ≠ s) : getL gs s = ⟨#[]⟩ := by
  unfold getL
  rw [List.find?_eq_none.2 (fun x hx => by simpa using h x hx)]
set_option maxRecDepth 100000 in
set_option maxHeartbeats 4000000 in
theorem GetR_c (ao : Option Addr) (cap : Nat) (gs : List FB) (s : ByteArray) (w : World) (hR : RdF (.slice ao gs.length cap) gs w) (ho : Onc gs) (hm : gs.length ≤ 1000) :
    Calls Tryd.prog 17 #[.slice ao gs.length cap, .string s] w fun e w' => e = .returned (.string (getL gs s)) ∧ Below w.heap.size w w' := by
  have HR := Lib.hid hR
  have HO := Lib.hid ho
  clear hR ho
  go_enter Tryd.func17, Tryd.ntmps17
  go_wp2
  go_loopw [9] (fun v wr => ∃ k : Nat, k ≤ gs.length ∧ v = .int .i64 k ∧ Hid (∀ i (h : i < gs.length), i < k → gs[i].1 ≠ s) ∧ Hid (Below w.heap.size w wr)) (fun v _ => gs.length - (intOf v).toNat)
  case atStart => exact ⟨0, by omega, rfl, Lib.hid (fun i _ h => absurd h (Nat.not_lt_zero _)), Lib.hid (Below.refl _ _)⟩
  case round =>
    obtain ⟨k, hk, rfl, HN, HB⟩ := hrel
    by_cases hlt : k < gs.length
    · obtain ⟨g, off, rfl, hg, hat⟩ := rdf_at2 (HR.out.go HB.out) (by omega)
      obtain ⟨p0, p1⟩ := hat k hlt
      have hk0 : (0 : Int) ≤ (k : Int) := by omega
      have hkl : (k : Int) < (gs.length : Int) := by omega
      have hgn : g ≠ wr.heap.size := by omega
      have hbz := HB.out.size
      clear hat
      by_cases he : gs[k].1 = s
      · have HG := Lib.hid (get_at HO.out hlt he)
        rw [he] at p0
        clear he
        revert p1 HG
        generalize gs[k].2 = y
        intro p1 HG
        have HBA : Hid (Below w.heap.size w (wr.alloc (.cells #[.string s, .string y] 48))) := HB.out.alloc hbz _
        go_wp2
        go_ret
        exact ⟨congrArg (fun x => Ending.returned (.string x)) HG.out.symm, HBA.out⟩
      · have HN2 : Hid (∀ i (h : i < gs.length), i < k + 1 → gs[i].1 ≠ s) := fun i h hh => by
          rcases Nat.lt_succ_iff_lt_or_eq.1 hh with g | g
          · exact HN.out i h g
          · subst g; exact he
        have hne : (gs[k].1.toList == s.toList) = false := by
          rw [Lib.toList_data, Lib.toList_data]
          exact beq_eq_false_iff_ne.2 (fun h => he (ba_ext h))
        clear he
        revert p0 p1 hne
        generalize gs[k].1 = x
        generalize gs[k].2 = y
        intro p0 p1 hne
        have HBA : Hid (Below w.heap.size w (wr.alloc (.cells #[.string x, .string y] 48))) := HB.out.alloc hbz _
        go_wp2
        go_roundw
        case rel => exact ⟨k + 1, by omega, by go_num, HN2, HBA⟩
        case measure => simp [intOf]; omega
    · have HG := Lib.hid (get_no (gs := gs) (s := s) (fun x hx => by obtain ⟨i, hi, rfl⟩ := List.mem_iff_getElem.1 hx; exact HN.out i hi (by omega)))
      go_wp2
      go_ret
      exact ⟨congrArg (fun x => Ending.returned (.string x)) HG.out.symm, HB.out⟩
set_option maxRecDepth 100000 in
set_option maxHeartbeats 4000000 in
theorem Get_c (ao : Option Addr) (cap : Nat) (gs : List FB) (s : ByteArray) (w : World) (hR : RdF (.slice ao gs.length cap) gs w) (ha : Asc gs) (ho : Onc gs) (hm : gs.length ≤ 1000) :
    Calls Tryd.prog 16 #[.agg #[.slice ao gs.length cap], .string s] w fun e w' => e = .returned (.string (getL gs s)) ∧ Below w.heap.size w w' := by
  obtain ⟨W1, hW1, hk1, hb1⟩ : ∃ W1, W1 = w.alloc (.cells #[.slice ao gs.length cap] 27) ∧ W1.heap[w.heap.size]? = some (.cells #[.slice ao gs.length cap] 27 (0, 0)) ∧ Below w.heap.size w W1 := ⟨_, rfl, heap_alloc_new w _, (Below.refl _ _).alloc (Nat.le_refl _) _⟩
  have HF := Lib.hid (find_c ao cap gs s W1 (hR.go hb1) ha hm)
  have HR := Lib.hid (hR.go hb1)
  have HB1 := Lib.hid hb1
  have HK1 := Lib.hid hk1
  have HW1 := Lib.hid hW1
  have HO := Lib.hid ho
  have hl1 : w.heap.size < W1.heap.size := (Array.getElem?_eq_some_iff.1 hk1).1
  clear hR ha ho hb1 hk1 hW1
  go_enter Tryd.func16, Tryd.ntmps16
  go_wp2_with fail
  rw [← HW1.out]
  clear HW1
  refine HF.out.mono ?_
  rintro e w2 ⟨i, b, rfl, hy, hn, hb⟩
  have HB2 : Hid (Below w.heap.size w w2) := HB1.out.trans (hb.mono HB1.out.size)
  have HK2 : Hid (w2.heap[w.heap.size]? = some (.cells #[.slice ao gs.length cap] 27 (0, 0))) := (hb.block _ hl1).trans HK1.out
  have HR2 := Lib.hid (HR.out.go hb)
  clear hb HF HK1 HR
  cases b with
  | false =>
    have HG := Lib.hid (get_no (hn rfl))
    clear hy hn
    go_wp2
    go_ret
    exact ⟨congrArg (fun x => Ending.returned (.string x)) HG.out.symm, HB2.out⟩
  | true =>
    obtain ⟨hi2, he⟩ := hy rfl
    have HG := Lib.hid (get_at HO.out hi2 he)
    obtain ⟨g, off, rfl, hg, hat⟩ := rdf_at2 HR2.out (by omega)
    obtain ⟨p0, p1⟩ := hat i hi2
    have d0 := cell_of_row _ _ 0 _ _ _ HK2.out
    have hi0 : (0 : Int) ≤ (i : Int) := by omega
    have hil : (i : Int) < (gs.length : Int) := by omega
    clear hy hn hat he
    revert p1 HG
    generalize gs[i].2 = y
    intro HG p1
    go_wp2
    go_ret
    exact ⟨congrArg (fun x => Ending.returned (.string x)) HG.out.symm, HB2.out⟩
end Go.Proofs.YtjgbfpkjkglfnaaDoor.Lb
