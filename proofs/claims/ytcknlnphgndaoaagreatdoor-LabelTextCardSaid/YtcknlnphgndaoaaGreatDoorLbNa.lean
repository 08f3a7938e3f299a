/- Contracts and plain mathematics of some packages' functions, laid together; conditions as each one says. -/
import Derived.Test.YtcknlnphgndaoaaGreatDoorLbAa
import Derived.Shelf.Strings.Builder1
import Derived.Shelf.Small.Bits
import Derived.Shelf.Small.Strs
import Derived.Shelf.Small.Wraps
import Derived.Shelf.Strings.BuilderF
import Derived.Shelf.Strings.BuilderK
import Derived.Shelf.Strconv.Itoa0
import Derived.Shelf.Strconv.Itoa1
import Derived.Shelf.LaysM
import Derived.Shelf.Strconv.Itoa2
import Derived.Shelf.Strconv.Itoa3
import Derived.Shelf.Strconv.Itoa4
import Derived.Shelf.Strings.Search1
import Derived.Shelf.Strings.Search2
import Derived.Shelf.Strings.Cut
import Derived.Shelf.Strings.Shaped
import Derived.Shelf.Strings.Prefix
import Derived.Test.YtcknlnphgndaoaaGreatDoorProg
import Derived.BigQuiet
namespace Go.Proofs.YtcknlnphgndaoaaGreatDoor.Lb
open Go.RowKit Ch Jt
set_option linter.unusedSimpArgs false
set_option linter.unusedVariables false

theorem own_mono {T : TypeId} {B B' k n : Nat} {v : Value} {xs : List Value} {w : World} (h : w.ownsRow B T k v n xs) (hB : B' ≤ B) : w.ownsRow B' T k v n xs := by
  obtain ⟨h1, h2⟩ := h
  refine ⟨h1, ?_⟩
  rcases h2 with h2 | ⟨g, cap, cur, hv, hb, rest⟩
  · exact .inl h2
  · exact .inr ⟨g, cap, cur, hv, Nat.le_trans hB hb, rest⟩
theorem clone_c (ao : Option Addr) (cap : Nat) (gs : List FB) (w : World) (hR : RdF (.slice ao gs.length cap) gs w) (hp : Pl ao) (hm : gs.length ≤ 5000) :
    Calls Tryz.prog 40 #[.slice ao gs.length cap] w fun e w' => ∃ v, e = .returned v ∧ OwF 39 w.heap.size v gs w' ∧ Below w.heap.size w w' := by
  obtain ⟨i0, hi, hz0, hz1, hz2⟩ := info_parts info2
  rcases hp with rfl | ⟨b, rfl⟩
  · have h0 : gs = [] := by
      cases gs with
      | nil => rfl
      | cons x r => obtain ⟨g, off, e, _⟩ := rdf_at2 hR (by simp); cases e
    subst h0
    have h := AnyE.slices_Clone_nil (P := Tryz.prog) Tryz.cloneP 0 cap w
    exact Calls.mono h fun e w' ⟨he, hw⟩ => ⟨_, he, World.ownsRow_nil _ _ _ _, by rw [hw]; exact Below.refl _ _⟩
  · have h := AnyE.slices_Clone (P := Tryz.prog) Tryz.cloneP i0 _ 2 32 hi hz0 hz1 hz2 rfl (by decide) Tryz.sizeOf39 b 0 gs.length cap (fC gs) w (fC_len gs) (by unfold maxLen; omega) (by omega) (fun j u hu => by
      have hj : j < gs.length * 2 := by
        rcases Nat.lt_or_ge j (gs.length * 2) with h | h
        · exact h
        · rw [List.getElem?_eq_none (by rw [fC_len]; exact h)] at hu; cases hu
      have hq : j / 2 < gs.length := by omega
      obtain ⟨a0, a1⟩ := fC_at gs (j / 2) hq
      obtain ⟨b0, b1, _⟩ := rdf_at hR hq
      rw [Nat.zero_add]
      rcases Nat.mod_two_eq_zero_or_one j with h | h
      · have ej : j = j / 2 * 2 := by omega
        rw [ej] at hu ⊢
        rw [b0, ← a0, hu]
      · have ej : j = j / 2 * 2 + 1 := by omega
        rw [ej] at hu ⊢
        rw [b1, ← a1, hu]) (fC_one gs)
    exact Calls.mono h fun e w' ⟨v, he, ho, _, hb⟩ => ⟨v, he, ho, hb⟩
set_option maxRecDepth 100000 in
set_option maxHeartbeats 4000000 in
theorem Prs_c (ao : Option Addr) (cap : Nat) (gs : List FB) (w : World) (hR : RdF (.slice ao gs.length cap) gs w) (hp : Pl ao) (hm : gs.length ≤ 5000) :
    Calls Tryz.prog 25 #[.agg #[.slice ao gs.length cap]] w fun e w' => ∃ v, e = .returned v ∧ OwF 39 w.heap.size v gs w' ∧ Below w.heap.size w w' := by
  have hba := (Below.refl w.heap.size w).alloc (Nat.le_refl _) (.cells #[.slice ao gs.length cap] 27)
  have HC := Lib.hid (clone_c ao cap gs _ (hR.go hba) hp hm)
  have HBA := Lib.hid hba
  clear hba hR hp
  go_enter Tryz.func25, Tryz.ntmps25
  go_wp2_with fail
  refine HC.out.mono ?_
  rintro e w2 ⟨v, rfl, ho, hb⟩
  have HO := Lib.hid (own_mono ho HBA.out.size)
  have HB2 : Hid (Below w.heap.size w w2) := HBA.out.trans (hb.mono HBA.out.size)
  clear ho hb
  go_wp2
  go_ret
  exact ⟨_, rfl, HO.out, HB2.out⟩
set_option maxRecDepth 100000 in
set_option maxHeartbeats 4000000 in
theorem Plain_c (ao : Option Addr) (cap : Nat) (gs : List FB) (w : World) (hR : RdF (.slice ao gs.length cap) gs w) (hp : Pl ao) (hm : gs.length ≤ 5000) :
    Calls Tryz.prog 11 #[.agg #[.slice ao gs.length cap]] w fun e w' => ∃ v, e = .returned v ∧ OwF 38 w.heap.size v gs w' ∧ Below w.heap.size w w' := by
  have hba := (Below.refl w.heap.size w).alloc (Nat.le_refl _) (.cells #[.slice ao gs.length cap] 27)
  have HC2 := Lib.hid (Prs_c ao cap gs _ (hR.go hba) hp hm)
  have HBA := Lib.hid hba
  obtain ⟨ir, hir, hra, hrb, hrc⟩ := info_parts infoR
  clear hba hR hp
  go_enter Tryz.func11, Tryz.ntmps11
  go_wp2_with fail
  refine HC2.out.mono ?_
  rintro e w2 ⟨v, rfl, ho, hb⟩
  obtain ⟨ap, cp, hv⟩ := own_lenF ho
  subst hv
  have HR2 := Lib.hid ho.rd
  have HB2 : Hid (Below w.heap.size w w2) := HBA.out.trans (hb.mono HBA.out.size)
  clear ho hb HC2
  go_wp2
  go_loopw [3, 9] (fun ov iv wr => ∃ j : Nat, j ≤ gs.length ∧ iv = .int .i64 j ∧ Hid (OwF 38 w2.heap.size ov (gs.take j) wr) ∧ Hid (Below w2.heap.size w2 wr)) (fun _ iv _ => gs.length - (intOf iv).toNat)
  case atStart => exact ⟨0, by omega, rfl, Lib.hid (World.ownsRow_nil _ _ _ _), Lib.hid (Below.refl _ _)⟩
  case round =>
    obtain ⟨j, hj, rfl, HO, HB⟩ := hrel
    obtain ⟨aoo, cpo, hv⟩ := own_lenF HO.out
    subst hv
    have HTL : Hid ((gs.take j).length = j) := by show _ = _; rw [List.length_take]; omega
    rw [HTL.out] at HO ⊢
    by_cases hlt : j < gs.length
    · obtain ⟨g, off, rfl, hg, hat⟩ := rdf_at2 (HR2.out.go HB.out) (by omega)
      obtain ⟨p0, p1⟩ := hat j hlt
      have HST : Hid (gs.take (j + 1) = gs.take j ++ [gs[j]]) := List.take_succ_eq_append_getElem hlt
      have hj0 : (0 : Int) ≤ (j : Int) := by omega
      have hjl : (j : Int) < (gs.length : Int) := by omega
      clear hat
      obtain ⟨⟨x, y⟩, hxy⟩ : ∃ f : FB, gs[j] = f := ⟨_, rfl⟩
      rw [hxy] at p0 p1 HST
      simp only at p0 p1
      clear hxy
      obtain ⟨W3, hW3, hk1, hk0, hb1⟩ := new_two wr (.string x) (.string y) 39 38
      have HW3 := Lib.hid hW3
      have HB3 : Hid (Below w2.heap.size w2 W3) := HB.out.trans (hb1.mono HB.out.size)
      have IO := Lib.hid (HO.out.go hb1)
      unfold OwF at IO
      rw [HTL.out] at IO
      have DC := Lib.hid (two_cell hk1)
      have D3 : Hid (j + 1 ≤ maxLen) := by show _ ≤ _; unfold maxLen; omega
      have D4 : Hid ((j + 1) * 32 ≤ 140737488355328) := by show _ ≤ _; omega
      have E1 : Hid (w2.heap.size ≤ W3.heap.size) := HB3.out.size
      clear hW3 hk1 hk0 hb1
      go_wp2_with (at_builtin; rw [← HW3.out]; refine wpList_append_own _ rfl _ _ 22 rfl w2.heap.size 38 ir _ 2 32 Tryz.underlying22 hir hra hrb hrc rfl (by decide) _ _ _ rfl IO.out ⟨wr.heap.size + 1, 0, none⟩ 1 1 [.string x, .string y] rfl rfl DC.out two_ok D3.out D4.out E1.out ?_)
      intro v1 V1 hown1 hgrow1 _
      have HBV : Hid (Below w2.heap.size w2 V1) := HB3.out.grown hgrow1 HB3.out.size (fun k hk => (IO.out.lt k hk).1)
      have JO : Hid (OwF 38 w2.heap.size v1 (gs.take (j + 1)) V1) := by
        show OwF _ _ _ _ _
        rw [HST.out]; unfold OwF; rw [fC_snoc, List.length_append, HTL.out]
        exact hown1
      clear hown1 hgrow1
      go_wp2
      go_roundw
      case rel => exact ⟨j + 1, by omega, by go_num, JO, HBV⟩
      case measure => simp [intOf]; omega
    · have hje : gs.take j = gs := List.take_of_length_le (by omega)
      have HLE : Hid (j = gs.length) := by show _ = _; omega
      rw [hje] at HO
      have HOZ : Hid (OwF 38 w.heap.size (.slice aoo j cpo) gs wr) := own_mono HO.out HB2.out.size
      have HBZ : Hid (Below w.heap.size w wr) := HB2.out.trans (HB.out.mono HB2.out.size)
      clear hje HO
      go_wp2
      go_ret
      exact ⟨_, rfl, HOZ.out, HBZ.out⟩
theorem neqR (a b c d : ByteArray) (W : World) : (binOp .neq 38 (.agg #[.string a, .string b]) (.agg #[.string c, .string d])).run Tryz.prog W = .ok (.bool (!decide (a.data.toList = c.data.toList ∧ b.data.toList = d.data.toList))) W := by
  have u9 := Tryz.underlying9
  have hS : Tryz.prog.underlying 38 = some (.struct (Tryz.prog.fieldsOf 38)) := by kernel_rfl
  have hp : Tryz.prog.stoodInHeld 38 = false := by kernel_rfl
  rw [run_neq_struct, show (10000 : Nat) = 9999 + 1 from rfl, run_equalIn_agg W 9999 38 _ _ hS hp]
  simp only [Program.fieldsOf, Tryz.underlying38]
  go_simp
  simp only [Lib.toList_data]
  by_cases h1 : a.data = c.data <;> by_cases h2 : b.data = d.data <;> simp [h1, h2]
set_option maxRecDepth 100000 in
set_option maxHeartbeats 4000000 in
theorem RSame_c (a1 a2 : Option Addr) (c1 c2 : Nat) (xs : List FB) (w : World) (hA : RdF (.slice a1 xs.length c1) xs w) (hB : RdF (.slice a2 xs.length c2) xs w) (hm : xs.length ≤ 5000) :
    Calls Tryz.prog 10 #[.slice a1 xs.length c1, .slice a2 xs.length c2] w fun e w' => e = .returned (.bool true) ∧ Below w.heap.size w w' := by
  have HA := Lib.hid hA
  have HB := Lib.hid hB
  clear hA hB
  go_enter Tryz.func10, Tryz.ntmps10
  go_wp2
  go_loopw [13] (fun v wr => ∃ j : Nat, j ≤ xs.length ∧ v = .int .i64 j ∧ Hid (Below w.heap.size w wr)) (fun v _ => xs.length - (intOf v).toNat)
  case atStart => exact ⟨0, by omega, rfl, Lib.hid (Below.refl _ _)⟩
  case round =>
    obtain ⟨j, hj, rfl, HBW⟩ := hrel
    by_cases hlt : j < xs.length
    · obtain ⟨g1, o1, rfl, hg1, hat1⟩ := rdf_at2 (HA.out.go HBW.out) (by omega)
      obtain ⟨g2, o2, rfl, hg2, hat2⟩ := rdf_at2 (HB.out.go HBW.out) (by omega)
      obtain ⟨p0, p1⟩ := hat1 j hlt
      obtain ⟨q0, q1⟩ := hat2 j hlt
      have hj0 : (0 : Int) ≤ (j : Int) := by omega
      have hjl : (j : Int) < (xs.length : Int) := by omega
      have hN := fun W => neqR xs[j].1 xs[j].2 xs[j].1 xs[j].2 W
      rw [decide_eq_true (⟨rfl, rfl⟩ : xs[j].1.data.toList = xs[j].1.data.toList ∧ xs[j].2.data.toList = xs[j].2.data.toList)] at hN
      clear hat1 hat2
      revert p0 p1 q0 q1 hN
      generalize xs[j].1 = xa
      generalize xs[j].2 = xb
      intro p0 p1 q0 q1 hN
      go_wp2_with fail
      go_quiet (fail)
      go_wp2
      go_roundw
      case rel => exact ⟨j + 1, by omega, by go_num, Lib.hid (HBW.out.trans ((bdrN wr _).mono HBW.out.size))⟩
      case measure => simp [intOf]; omega
    · go_wp2
      go_ret
      exact ⟨rfl, HBW.out⟩
end Go.Proofs.YtcknlnphgndaoaaGreatDoor.Lb
namespace Go.Proofs
open Go.Shelf
def Tryz.lays219_ren : Go.Shelf.Ren := ⟨fun | 219 => 69 | 217 => 79 | 225 => 85 | 224 => 86 | 267 => 87 | 266 => 97 | 314 => 99 | n => n, fun | 9 => 9 | 3 => 3 | 4 => 4 | 5 => 5 | 46 => 66 | 146 => 154 | 51 => 90 | n => n, fun | 1 => 0 | n => n⟩
theorem Tryz.lays219 : Go.Proofs.Lays.n219 Tryz.prog Tryz.lays219_ren := {
  mixed := by kernel_rfl
  f217 := Tryz.func79.trans (congrArg some (by kernel_rfl))
  f219 := Tryz.func69.trans (congrArg some (by kernel_rfl))
  f224 := Tryz.func86.trans (congrArg some (by kernel_rfl))
  f225 := Tryz.func85.trans (congrArg some (by kernel_rfl))
  f266 := Tryz.func97.trans (congrArg some (by kernel_rfl))
  f267 := Tryz.func87.trans (congrArg some (by kernel_rfl))
  f314 := Tryz.func99.trans (congrArg some (by kernel_rfl))
  t3 := Tryz.underlying3
  a3 := Tryz.isAgg3
  z3 := Tryz.sizeOf3
  v3 := Tryz.zeroValue3
  t4 := Tryz.underlying4
  a4 := Tryz.isAgg4
  z4 := Tryz.sizeOf4
  v4 := Tryz.zeroValue4
  t5 := Tryz.underlying5
  a5 := Tryz.isAgg5
  z5 := Tryz.sizeOf5
  v5 := Tryz.zeroValue5
  t9 := Tryz.underlying9
  a9 := Tryz.isAgg9
  z9 := Tryz.sizeOf9
  v9 := Tryz.zeroValue9
  t46 := Tryz.underlying66
  a46 := Tryz.isAgg66
  z46 := Tryz.sizeOf66
  v46 := Tryz.zeroValue66
  t51 := Tryz.underlying90
  a51 := Tryz.isAgg90
  z51 := Tryz.sizeOf90
  v51 := Tryz.zeroValue90
  t146 := Tryz.underlying154
  a146 := Tryz.isAgg154
  z146 := Tryz.sizeOf154
  v146 := Tryz.zeroValue154
  g1 := by kernel_rfl }
end Go.Proofs
namespace Go.Proofs.YtcknlnphgndaoaaGreatDoor.Lb
open Go.RowKit Ch Jt
set_option linter.unusedSimpArgs false
set_option linter.unusedVariables false

theorem idx_neg {l : List UInt8} {c : UInt8} (h : ¬ c ∈ l) : Lib.indexByte l c = -1 := by
  have h1 := Lib.indexByte_ge l c
  have h2 : ¬ 0 ≤ Lib.indexByte l c := fun g => h ((Ch.idx_ge l c).1 g)
  omega
theorem ext0 (s : ByteArray) (k : Nat) : s.extract 0 k = Jt.mkS (s.data.toList.take k) := Jt.mkS_of (by rw [Lib.extract_data]; simp)
theorem extN (s : ByteArray) (k : Nat) : s.extract k s.size = Jt.mkS (s.data.toList.drop k) := Jt.mkS_of (by rw [Lib.extract_data, List.take_of_length_le (by rw [List.length_drop, ← Lib.size_eq]; exact Nat.le_refl _)])
def cutP (c : UInt8) (l : List UInt8) : List UInt8 × List UInt8 := (l.takeWhile (· ≠ c), (l.dropWhile (· ≠ c)).drop 1)
theorem cutP_no {c : UInt8} {l : List UInt8} (h : ¬ c ∈ l) : cutP c l = (l, []) := by
  unfold cutP
  have hp : ∀ x ∈ l, (decide (x ≠ c)) = true := fun x hx => by simp; exact fun e => h (e ▸ hx)
  have h1 := List.takeWhile_append_of_pos (l₂ := []) hp
  have h2 := List.dropWhile_append_of_pos (l₂ := []) hp
  rw [List.append_nil] at h1 h2
  rw [h1, h2]; simp
theorem cutP_at {c : UInt8} {p q : List UInt8} (h : ¬ c ∈ p) : cutP c (p ++ c :: q) = (p, q) := by
  unfold cutP
  have hp : ∀ x ∈ p, (decide (x ≠ c)) = true := fun x hx => by simp; exact fun e => h (e ▸ hx)
  rw [List.takeWhile_append_of_pos hp, List.dropWhile_append_of_pos hp]
  simp
theorem cutP_len (c : UInt8) (l : List UInt8) : (cutP c l).1.length ≤ l.length ∧ (cutP c l).2.length ≤ l.length := by
  by_cases h : c ∈ l
  · obtain ⟨p, q, e, hp⟩ := List.eq_append_cons_of_mem h
    subst e
    rw [cutP_at hp]; simp; omega
  · rw [cutP_no h]; simp
def cutV (c : UInt8) (l : List UInt8) : Ending := .returned (.tuple #[.string (Jt.mkS (cutP c l).1), .string (Jt.mkS (cutP c l).2), .bool (decide (c ∈ l))])
set_option maxRecDepth 100000 in
set_option maxHeartbeats 2000000 in
theorem lcut_c (s : ByteArray) (c : UInt8) (w : World) (hs : s.size ≤ 5000) : Calls Tryz.prog 55 #[.string s, .string ⟨#[c]⟩] w fun e w' => e = cutV c s.data.toList ∧ ∃ n, w' = w.drewN n := by
  have HI := Lib.hid (fun W => Any.stringslite_Index_one Tryz.lays219 s c W)
  have hsl := Lib.hid (Lib.size_eq s)
  unfold cutV
  by_cases h : c ∈ s.data.toList
  · obtain ⟨k, hk, hkl, hnm, hsp⟩ := Ch.idx_split s.data.toList c ((Ch.idx_ge _ c).2 h)
    rw [hk] at HI
    have hcp : cutP c s.data.toList = (s.data.toList.take k, s.data.toList.drop (k + 1)) := by
      have := cutP_at (c := c) (p := s.data.toList.take k) (q := s.data.toList.drop (k + 1)) hnm
      rw [← hsp] at this; exact this
    rw [hcp, decide_eq_true h]
    rw [← hsl.out] at hkl
    have HE1 := Lib.hid (ext0 s k)
    have HE2 := Lib.hid (extN s (k + 1))
    have c1 : (0 : Int) ≤ (k : Int) := by omega
    have c2 : (k : Int) ≤ (s.size : Int) := by omega
    have c3 : (0 : Int) ≤ (k : Int) + 1 := by omega
    have c4 : (k : Int) + 1 ≤ (s.size : Int) := by omega
    have hs1 : (ByteArray.mk #[c]).size = 1 := rfl
    clear hk hnm hsp hcp h
    go_enter Tryz.func55, Tryz.ntmps55
    go_wp2_with (go_at_call 69; refine (HI.out _).mono ?_; rintro e w' ⟨rfl, rfl⟩)
    go_quiet (fail)
    go_wp2
    go_ret3
    exact ⟨by rw [← HE1.out, ← HE2.out]; rfl, _, rfl⟩
  · rw [idx_neg h] at HI
    rw [cutP_no h, decide_eq_false h]
    have HE : Hid (s = Jt.mkS s.data.toList) := Jt.mkS_of rfl
    clear h
    go_enter Tryz.func55, Tryz.ntmps55
    go_wp2_with (go_at_call 69; refine (HI.out _).mono ?_; rintro e w' ⟨rfl, rfl⟩)
    go_ret3
    exact ⟨by rw [← HE.out]; rfl, 0, rfl⟩
set_option maxRecDepth 100000 in
set_option maxHeartbeats 2000000 in
theorem scut_c (s : ByteArray) (c : UInt8) (w : World) (hs : s.size ≤ 5000) : Calls Tryz.prog 35 #[.string s, .string ⟨#[c]⟩] w fun e w' => e = cutV c s.data.toList ∧ ∃ n, w' = w.drewN n := by
  have HI := Lib.hid (fun W => lcut_c s c W hs)
  unfold cutV at HI ⊢
  revert HI
  generalize decide (c ∈ s.data.toList) = fd
  intro HI
  go_enter Tryz.func35, Tryz.ntmps35
  go_wp2_with (go_at_call 55; refine (HI.out _).mono ?_; rintro e w' ⟨rfl, n, rfl⟩)
  go_ret3
  exact ⟨rfl, n, rfl⟩
theorem pre_c (s p : ByteArray) (w : World) : Calls Tryz.prog 34 #[.string s, .string p] w fun e w' => e = .returned (.tuple #[.string ⟨(Lib.trimPrefix s.data.toList p.data.toList).toArray⟩, .bool (Lib.hasPrefix s.data.toList p.data.toList)]) ∧ w' = w := Any.strings_CutPrefix Tryz.lays103 s p w
end Go.Proofs.YtcknlnphgndaoaaGreatDoor.Lb
