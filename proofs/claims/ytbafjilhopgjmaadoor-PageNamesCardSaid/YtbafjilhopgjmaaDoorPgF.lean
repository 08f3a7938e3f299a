/- Chapter 27's example, and texts held against one another. -/
import Derived.Test.YtbafjilhopgjmaaDoorPgE
import Derived.Laws.StructEq
namespace Go.Proofs.YtbafjilhopgjmaaDoor.Pg
open Go.RowKit Ch
set_option linter.unusedSimpArgs false
set_option linter.unusedVariables false

theorem stood : Tryd.prog.stoodInHeld 25 = false := by kernel_rfl
theorem ex_rd : rdC [112, 51, 46, 50, 48] = some (3, 20) := (rdC_iff _ _ _).2 ⟨by omega, by omega, by omega, by omega, by decide +kernel⟩
theorem ex_pr : prC 3 20 = [112, 51, 46, 50, 48] := by decide +kernel
set_option maxRecDepth 100000 in
set_option maxHeartbeats 4000000 in
theorem awake_c (w : World) (hT : Nu.Tabs w) : Calls Tryd.prog 10 #[] w fun e w' => e = .returned (.bool true) ∧ Below w.heap.size w w' := by
  have HT := Lib.hid hT
  have HR := Lib.hid (fun W h => Read_c ⟨#[112, 51, 46, 50, 48]⟩ W (by decide) h)
  rw [show (ByteArray.mk #[112, 51, 46, 50, 48]).data.toList = [112, 51, 46, 50, 48] from rfl, ex_rd] at HR
  unfold rdV at HR
  have HP := Lib.hid (fun W h => Print_c 3 20 W (by omega) (by omega) (by omega) (by omega) h)
  rw [ex_pr] at HP
  clear hT
  go_enter Tryd.func10, Tryd.ntmps10
  have hs := stood
  go_wp2_with (go_at_call 7; (with_reducible refine (HR.out _ HT.out).mono ?_); rintro e w1 ⟨rfl, hb1⟩; have HB1 := Lib.hid hb1; have HT1 := Lib.hid (HT.out.go hb1); clear hb1)
  have hba : Below w1.heap.size w1 (w1.alloc (.cells #[.int .i64 3, .int .i64 20] 25)) := (Below.refl _ _).alloc (Nat.le_refl _) _
  (with_reducible refine (HP.out _ (HT1.out.go hba)).mono ?_)
  rintro e w2 ⟨rfl, hb2⟩
  have HB2 : Hid (Below w.heap.size w w2) := (HB1.out.trans (hba.mono HB1.out.size)).trans (hb2.mono (Nat.le_trans HB1.out.size hba.size))
  have he : ((mkS [112, 51, 46, 50, 48]).toList == [112, 51, 46, 50, 48]) = true := by rw [str_empty]; rfl
  clear hba hb2
  go_wp2
  go_ret
  exact ⟨rfl, HB2.out⟩
theorem drN (W : World) (n : Nat) : Below W.heap.size W (W.drewN n) := ⟨rfl, rfl, rfl, Nat.le_refl _, fun _ _ => rfl⟩
/-- a row of texts that may be none at all -/
def StR (v : Value) (ps : List (List UInt8)) (w : World) : Prop := ∃ ao cap, v = .slice ao ps.length cap ∧ (0 < ps.length → ∃ g, ao = some ⟨g, 0, none⟩ ∧ g < w.heap.size ∧ ∀ k (hk : k < ps.length), w.cell? ⟨g, k, none⟩ = some (.string (mkS ps[k])))
theorem StR.go {v : Value} {ps : List (List UInt8)} {w W : World} (h : StR v ps w) (hb : Below w.heap.size w W) : StR v ps W := by
  obtain ⟨ao, cap, rfl, hh⟩ := h
  refine ⟨ao, cap, rfl, fun hp => ?_⟩
  obtain ⟨g, rfl, hg, hc⟩ := hh hp
  exact ⟨g, rfl, Nat.lt_of_lt_of_le hg hb.size, fun k hk => (hb.cell (p := ⟨g, k, none⟩) hg).trans (hc k hk)⟩
theorem StR.own {B cap : Nat} {ao : Option Addr} {ps : List (List UInt8)} {w : World} {v : Value} (h : w.ownsRow B 9 1 v ps.length (vs ps)) (h0 : 0 < ps.length) : StR v ps w := by
  obtain ⟨g, cap, rfl⟩ := Joins.ownsRow_form h h0
  exact ⟨_, cap, rfl, fun _ => ⟨g, rfl, (h.lt g rfl).2, fun k hk => cell_of_owned h k hk⟩⟩
set_option maxRecDepth 100000 in
set_option maxHeartbeats 4000000 in
/-- two rows of texts of one length, alike -/
theorem texts_y (v u : Value) (ps : List (List UInt8)) (w : World) (hv : StR v ps w) (hu : StR u ps w) (hl : ps.length ≤ 100000) :
    Calls Tryd.prog 13 #[v, u] w fun e w' => e = .returned (.bool true) ∧ Below w.heap.size w w' := by
  have HV := Lib.hid hv
  have HU := Lib.hid hu
  obtain ⟨ao, c1, rfl, _⟩ := hv
  obtain ⟨bo, c2, rfl, _⟩ := hu
  go_enter Tryd.func13, Tryd.ntmps13
  go_wp2
  go_loopw [13] (fun v wr => ∃ j : Nat, j ≤ ps.length ∧ v = .int .i64 j ∧ Below w.heap.size w wr) (fun v _ => ps.length - (intOf v).toNat)
  case atStart => exact ⟨0, by omega, rfl, Below.refl _ _⟩
  case round =>
    obtain ⟨j, hj, rfl, hB⟩ := hrel
    have HB := Lib.hid hB
    clear hB
    by_cases hlt : j < ps.length
    · obtain ⟨ao', c1', e1, h1⟩ := HV.out.go HB.out
      injection e1 with e1a e1b e1c
      subst e1a e1c
      obtain ⟨g1, rfl, hg1, hc1⟩ := h1 (by omega)
      obtain ⟨bo', c2', e2, h2⟩ := HU.out.go HB.out
      injection e2 with e2a e2b e2c
      subst e2a e2c
      obtain ⟨g2, rfl, hg2, hc2⟩ := h2 (by omega)
      have p0 := hc1 j hlt
      have r0 := hc2 j hlt
      clear hc1 hc2 h1 h2
      revert p0 r0
      generalize mkS ps[j] = xx
      intro p0 r0
      have hj0 : (0 : Int) ≤ (j : Int) := by omega
      have hjl : (j : Int) < (ps.length : Int) := by omega
      go_wp2
      go_quiet (fail)
      go_wp2
      go_roundw
      case rel => exact ⟨j + 1, by omega, by go_num, HB.out.trans ((drN _ _).mono HB.out.size)⟩
      case measure => simp [intOf]; omega
    · go_wp2
      go_ret
      exact ⟨rfl, HB.out⟩
end Go.Proofs.YtbafjilhopgjmaaDoor.Pg
