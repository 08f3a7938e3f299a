/- Contracts of the library's BinarySearchFunc at package label's closure, and of package label's find: for few pairs that rise by their names, and every name. -/
import Derived.Test.YtjgbfpkjkglfnaaDoorLbN
namespace Go.Proofs.YtjgbfpkjkglfnaaDoor.Lb
open Go.RowKit Ch Jt
set_option linter.unusedSimpArgs false
set_option linter.unusedVariables false

def cfS (x : FB) (s : ByteArray) : Int := Lib.compareBytes x.1.data.toList s.data.toList
set_option maxRecDepth 100000 in
set_option maxHeartbeats 2000000 in
theorem clf_c (x : FB) (s : ByteArray) (W : World) : Calls Tryd.prog 54 #[.agg #[.string x.1, .string x.2], .string s] W fun e w' => e = .returned (.int .i64 (cfS x s)) ∧ Below W.heap.size W w' := by
  have hcon := fun W' => Any.strings_Compare Tryd.lays106 x.1 s W'
  change ∀ W', Calls Tryd.prog 28 _ _ _ at hcon
  unfold cfS
  generalize Lib.compareBytes x.1.data.toList s.data.toList = r at hcon ⊢
  have HB := Lib.hid ((Below.refl W.heap.size W).alloc (Nat.le_refl _) (.cells #[.string x.1, .string x.2] 52))
  go_enter Tryd.func54, Tryd.ntmps54
  go_wp2_with (go_at_call 28; refine (hcon _).mono ?_; rintro e w' ⟨rfl, rfl⟩)
  go_ret
  exact ⟨rfl, HB.out⟩
theorem asc_low {gs : List FB} (ha : Asc gs) {s : ByteArray} {h k : Nat} (hh : h < gs.length) (hc : cfS gs[h] s < 0) (hk : k < gs.length) (hkh : k ≤ h) : cfS gs[k] s < 0 := by
  rcases Nat.lt_or_eq_of_le hkh with g | g
  · have h1 : ¬ cfN gs[h] gs[k] < 0 := (List.pairwise_iff_getElem.1 ha) k h hk hh g
    by_cases h2 : cfN gs[k] gs[h] < 0
    · exact cb_trans _ _ _ h2 hc
    · have e := cf_eq h2 h1
      unfold cfS at hc ⊢
      rw [e]; exact hc
  · subst g; exact hc
theorem asc_high {gs : List FB} (ha : Asc gs) {s : ByteArray} {h k : Nat} (hh : h < gs.length) (hc : ¬ cfS gs[h] s < 0) (hk : k < gs.length) (hkh : h ≤ k) : ¬ cfS gs[k] s < 0 := fun h2 => hc (asc_low ha hk h2 hh hkh)
theorem cfS_zero {x : FB} {s : ByteArray} (h : cfS x s = 0) : x.1 = s := ba_ext (cb_zero _ _ h)
theorem cfS_self {x : FB} {s : ByteArray} (h : x.1 = s) : cfS x s = 0 := by unfold cfS; rw [h]; exact cb_self _
theorem fnd_none {gs : List FB} (ha : Asc gs) {s : ByteArray} {i : Nat} (hl : ∀ k (h : k < gs.length), k < i → cfS gs[k] s < 0) (hr : ∀ h : i < gs.length, ¬ cfS gs[i] s < 0 ∧ cfS gs[i] s ≠ 0) : ∀ x ∈ gs, x.1 ≠ s := fun x hx e => by
  obtain ⟨k, hk, rfl⟩ := List.mem_iff_getElem.1 hx
  have hz := cfS_self e
  rcases Nat.lt_trichotomy k i with h | h | h
  · have := hl k hk h; omega
  · subst h; exact (hr hk).2 hz
  · have hi : i < gs.length := by omega
    have h1 : ¬ cfN gs[k] gs[i] < 0 := (List.pairwise_iff_getElem.1 ha) i k hi hk h
    have h2 : cfN gs[k] gs[i] = - cfS gs[i] s := by unfold cfN cfS; rw [e]; exact cb_anti _ _
    have := hr hi
    omega
/-- the place of a name: how many stand ahead of it -/
def lowN (gs : List FB) (s : ByteArray) : Nat := (gs.takeWhile fun x => decide (cfS x s < 0)).length
def BinQ (gs : List FB) (s : ByteArray) (w : World) (e : Ending) (w' : World) : Prop := ∃ (i : Nat) (b : Bool), e = .returned (.tuple #[.int .i64 i, .bool b]) ∧ (b = true → ∃ h : i < gs.length, gs[i].1 = s) ∧ (b = false → ∀ x ∈ gs, x.1 ≠ s) ∧ Below w.heap.size w w'
theorem binq_no {gs : List FB} {s : ByteArray} {w w' : World} (i : Nat) (h : ∀ x ∈ gs, x.1 ≠ s) (hb : Below w.heap.size w w') : BinQ gs s w (.returned (.tuple #[.int .i64 i, .bool false])) w' := ⟨i, false, rfl, fun h => absurd h (by decide), fun _ => h, hb⟩
theorem binq_d {gs : List FB} {s : ByteArray} {w w' : World} (i : Nat) (r : Int) (hy : r = 0 → ∃ h : i < gs.length, gs[i].1 = s) (hn : r ≠ 0 → ∀ x ∈ gs, x.1 ≠ s) (hb : Below w.heap.size w w') : BinQ gs s w (.returned (.tuple #[.int .i64 i, .bool (r == 0)])) w' := ⟨i, _, rfl, fun h => hy (by simpa using h), fun h => hn (by simpa using h), hb⟩
set_option maxRecDepth 100000 in
set_option maxHeartbeats 4000000 in
theorem bin_c (ao : Option Addr) (cap : Nat) (gs : List FB) (s : ByteArray) (w : World) (hR : RdF (.slice ao gs.length cap) gs w) (ha : Asc gs) (hm : gs.length ≤ 1000) :
    Calls Tryd.prog 53 #[.slice ao gs.length cap, .string s, .func (.func 54) #[] #[]] w (BinQ gs s w) := by
  have HR := Lib.hid hR
  have HA := Lib.hid ha
  clear hR ha
  go_enter Tryd.func53, Tryd.ntmps53
  go_wp2
  go_loopw [9, 10] (fun iv jv wr => ∃ i j : Nat, i ≤ j ∧ j ≤ gs.length ∧ iv = .int .i64 i ∧ jv = .int .i64 j ∧ Hid (∀ k (h : k < gs.length), k < i → cfS gs[k] s < 0) ∧ Hid (∀ k (h : k < gs.length), j ≤ k → 0 ≤ cfS gs[k] s) ∧ Hid (Below w.heap.size w wr)) (fun iv jv _ => (intOf jv).toNat - (intOf iv).toNat)
  case atStart => exact ⟨0, gs.length, by omega, by omega, rfl, rfl, Lib.hid (fun k _ h => absurd h (Nat.not_lt_zero _)), Lib.hid (fun k h h2 => absurd h (by omega)), Lib.hid (Below.refl _ _)⟩
  case round =>
    obtain ⟨i, j, hij, hj, rfl, rfl, HL, HH, HB⟩ := hrel
    by_cases hlt : i < j
    · have hi0 : (0 : Int) ≤ (i : Int) := by omega
      have hijI : (i : Int) < (j : Int) := by omega
      have hjl : (j : Int) ≤ (gs.length : Int) := by omega
      obtain ⟨h, hh⟩ : ∃ h, h = (i + j) / 2 := ⟨_, rfl⟩
      have hh1 : i ≤ h := by omega
      have hh2 : h < j := by omega
      have hhI : ((i : Int) + (j : Int)) / 2 = (h : Int) := by omega
      have hh0 : (0 : Int) ≤ (h : Int) := by omega
      have hhl : (h : Int) < (gs.length : Int) := by omega
      obtain ⟨g, off, rfl, hg, hat⟩ := rdf_at2 (HR.out.go HB.out) (by omega)
      have hhn : h < gs.length := by omega
      obtain ⟨p0, p1⟩ := hat h hhn
      have HCL := Lib.hid (fun W => clf_c gs[h] s W)
      have HFH : Hid (cfS gs[h] s < 0 → ∀ k (hk : k < gs.length), k < h + 1 → cfS gs[k] s < 0) := fun hc k hk hlt2 => asc_low HA.out hhn hc hk (by omega)
      have HFL : Hid (0 ≤ cfS gs[h] s → ∀ k (hk : k < gs.length), h ≤ k → 0 ≤ cfS gs[k] s) := fun hc k hk hge => Int.not_lt.1 (asc_high HA.out hhn (Int.not_lt.2 hc) hk hge)
      clear hat hh
      revert p0 p1 HCL HFH HFL
      generalize gs[h].1 = x
      generalize gs[h].2 = y
      generalize cfS gs[h] s = r
      intro p0 p1 HCL HFH HFL
      by_cases hr : r < 0
      · go_wp2_with fail
        refine (HCL.out _).mono ?_
        rintro e w2 ⟨rfl, hb⟩
        have HB2 : Hid (Below w.heap.size w w2) := HB.out.trans (hb.mono HB.out.size)
        clear hb p0 p1
        go_wp2
        go_roundw
        case rel => exact ⟨h + 1, j, by omega, hj, by go_num, rfl, Lib.hid (HFH.out hr), HH, HB2⟩
        case measure => simp [intOf]; omega
      · go_wp2_with fail
        refine (HCL.out _).mono ?_
        rintro e w2 ⟨rfl, hb⟩
        have HB2 : Hid (Below w.heap.size w w2) := HB.out.trans (hb.mono HB.out.size)
        clear hb p0 p1
        go_wp2
        go_roundw
        case rel => exact ⟨i, h, hh1, by omega, rfl, rfl, HL, Lib.hid (HFL.out (by omega)), HB2⟩
        case measure => simp [intOf]; omega
    · have hije : j = i := by omega
      subst hije
      clear hij
      have hi0 : (0 : Int) ≤ (j : Int) := by omega
      by_cases hin : j < gs.length
      · have hijI : (j : Int) < (gs.length : Int) := by omega
        obtain ⟨g, off, rfl, hg, hat⟩ := rdf_at2 (HR.out.go HB.out) (by omega)
        obtain ⟨p0, p1⟩ := hat j hin
        have HCL := Lib.hid (fun W => clf_c gs[j] s W)
        have hnl := Int.not_lt.2 (HH.out j hin (Nat.le_refl _))
        have HY : Hid (cfS gs[j] s = 0 → ∃ h : j < gs.length, gs[j].1 = s) := fun h => ⟨hin, cfS_zero h⟩
        have HNO : Hid (cfS gs[j] s ≠ 0 → ∀ x ∈ gs, x.1 ≠ s) := fun h => fnd_none HA.out HL.out (fun _ => ⟨hnl, h⟩)
        clear hat hnl
        revert p0 p1 HCL HY HNO
        generalize gs[j].1 = x
        generalize gs[j].2 = y
        generalize cfS gs[j] s = r
        intro p0 p1 HCL HY HNO
        go_wp2_with fail
        refine (HCL.out _).mono ?_
        rintro e w2 ⟨rfl, hb⟩
        have HB2 : Hid (Below w.heap.size w w2) := HB.out.trans (hb.mono HB.out.size)
        clear hb p0 p1
        go_wp2
        go_ret2
        exact binq_d j r HY.out HNO.out HB2.out
      · have hijI : ¬ (j : Int) < (gs.length : Int) := by omega
        have HNO : Hid (∀ x ∈ gs, x.1 ≠ s) := fnd_none HA.out HL.out (fun h => absurd h hin)
        go_wp2
        go_ret2
        exact binq_no j HNO.out HB.out
set_option maxRecDepth 100000 in
set_option maxHeartbeats 4000000 in
theorem find_c (ao : Option Addr) (cap : Nat) (gs : List FB) (s : ByteArray) (w : World) (hR : RdF (.slice ao gs.length cap) gs w) (ha : Asc gs) (hm : gs.length ≤ 1000) :
    Calls Tryd.prog 35 #[.agg #[.slice ao gs.length cap], .string s] w (BinQ gs s w) := by
  have hba := (Below.refl w.heap.size w).alloc (Nat.le_refl _) (.cells #[.slice ao gs.length cap] 27)
  have HC := Lib.hid (bin_c ao cap gs s _ (hR.go hba) ha hm)
  have HBA := Lib.hid hba
  clear hba hR ha
  go_enter Tryd.func35, Tryd.ntmps35
  go_wp2_with fail
  refine HC.out.mono ?_
  rintro e w2 ⟨i, b, rfl, hy, hn, hb⟩
  have HQ : Hid (BinQ gs s w (.returned (.tuple #[.int .i64 i, .bool b])) w2) := ⟨i, b, rfl, hy, hn, HBA.out.trans (hb.mono HBA.out.size)⟩
  clear hy hn hb
  go_wp2
  go_ret2
  exact HQ.out
end Go.Proofs.YtjgbfpkjkglfnaaDoor.Lb
