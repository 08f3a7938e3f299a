/- The document's Counts and At, at every rising row of versions that can be read; no other condition. -/
import Derived.Test.YtfilammedofdoaaCnJ
namespace Go.Proofs.Ytfilammedofdoaa.Cn
open Go.RowKit Go.Lib Go.Shelf Go.Sort
set_option linter.unusedSimpArgs false
set_option linter.unusedVariables false

theorem infoR : (Try.prog.info? 27).map (fun i => (i.zero, i.size, i.bytes)) = some (some (.agg #[.int .i64 0, .string ⟨#[]⟩, .bool false]), 3, 32) := by kernel_rfl
set_option maxRecDepth 100000 in
set_option maxHeartbeats 2000000 in
theorem Counts_c (ao : Option Addr) (cap : Nat) (l : List Ver) (rev : Int) (w : World) (hR : RdV (.slice ao l.length cap) l w) (ha : Asc l) (hm : l.length ≤ 1000000) :
    Calls Try.prog 22 #[.slice ao l.length cap, .int .i64 rev] w fun e w' => e = .returned (.int .i64 ((cnt l rev : Nat) - 1 : Int)) ∧ Below w.heap.size w w' := by
  have HR := Lib.hid hR
  have HA := Lib.hid ha
  have hcl := cnt_le l rev
  clear hR ha
  go_enter Try.func22, Try.ntmps22
  go_wp2
  go_loopw [5, 10] (fun kv iv wr => ∃ j : Nat, j ≤ l.length ∧ iv = .int .i64 j ∧ kv = .int .i64 (((min j (cnt l rev) : Nat) : Int) - 1) ∧ Hid (Below w.heap.size w wr)) (fun _ iv _ => l.length - (intOf iv).toNat)
  case atStart => exact ⟨0, by omega, rfl, by simp, Lib.hid (Below.refl _ _)⟩
  case round =>
    obtain ⟨j, hj, rfl, rfl, HB⟩ := hrel
    by_cases hlt : j < l.length
    · obtain ⟨g, off, rfl, hg, hat⟩ := rdv_at (HR.out.go HB.out) (by omega)
      obtain ⟨p0, p1, p2⟩ := hat j hlt
      have hci := cnt_iff (rev := rev) HA.out hlt
      have hj0 : (0 : Int) ≤ (j : Int) := by omega
      have hjl : (j : Int) < (l.length : Int) := by omega
      clear hat
      obtain ⟨⟨x1, x2, x3⟩, hx⟩ : ∃ x : Ver, l[j] = x := ⟨_, rfl⟩
      rw [hx] at p0 p1 p2 hci
      simp only at p0 p1 p2 hci
      clear hx
      obtain ⟨W1, hW1, hk1, hb1⟩ := new3 wr (.int .i64 x1) (.string x2) (.bool x3) 27
      have HB1 : Hid (Below w.heap.size w W1) := HB.out.trans (hb1.mono HB.out.size)
      have HW1 := Lib.hid hW1
      have hgn : g ≠ wr.heap.size := by omega
      clear hW1 hk1 hb1
      by_cases hr : x1 ≤ rev
      · have h1 := hci.1 hr
        have HZ : Hid (((min (j + 1) (cnt l rev) : Nat) : Int) - 1 = j) := by show _ = _; omega
        clear hci h1
        generalize (((min j (cnt l rev) : Nat) : Int) - 1) = z
        go_wp2
        rw [← HW1.out]
        go_roundw
        case rel => exact ⟨j + 1, by omega, by go_num, by rw [HZ.out], HB1⟩
        case measure => simp [intOf]; omega
      · have h1 : ¬ j < cnt l rev := fun h => hr (hci.2 h)
        have HZ : Hid (((min (j + 1) (cnt l rev) : Nat) : Int) - 1 = ((min j (cnt l rev) : Nat) : Int) - 1) := by show _ = _; omega
        clear hci h1
        revert HZ
        generalize (((min j (cnt l rev) : Nat) : Int) - 1) = z
        intro HZ
        go_wp2
        rw [← HW1.out]
        go_roundw
        case rel => exact ⟨j + 1, by omega, by go_num, by rw [HZ.out], HB1⟩
        case measure => simp [intOf]; omega
    · have hjl : ¬ (j : Int) < (l.length : Int) := by omega
      have HZ : Hid (((min j (cnt l rev) : Nat) : Int) - 1 = ((cnt l rev : Nat) : Int) - 1) := by show _ = _; omega
      revert HZ
      generalize (((min j (cnt l rev) : Nat) : Int) - 1) = z
      intro HZ
      go_wp2
      go_ret
      exact ⟨congrArg (fun q => Ending.returned (.int .i64 q)) HZ.out, HB.out⟩
set_option maxRecDepth 100000 in
set_option maxHeartbeats 2000000 in
theorem AtR_c (ao : Option Addr) (cap : Nat) (l : List Ver) (rev : Int) (w : World) (hR : RdV (.slice ao l.length cap) l w) (ha : Asc l) (hm : l.length ≤ 1000000) :
    Calls Try.prog 10 #[.slice ao l.length cap, .int .i64 rev] w fun e w' => e = .returned (vb (atV l rev) (atB l rev)) ∧ Below w.heap.size w w' := by
  obtain ⟨W0, hW0, hk0, hb0⟩ := new3 w (.int .i64 0) (.string ⟨#[]⟩) (.bool false) 27
  have hlt0 : w.heap.size < W0.heap.size := (Array.getElem?_eq_some_iff.1 hk0).1
  have HC := Lib.hid (Counts_c ao cap l rev W0 (hR.go hb0) ha hm)
  have hcl := cnt_le l rev
  have HR := Lib.hid (hR.go hb0)
  have HW0 := Lib.hid hW0
  have HB0 := Lib.hid hb0
  have HK0 := Lib.hid hk0
  clear hW0 hb0 hk0 ha hR
  by_cases h0 : cnt l rev = 0
  · have HL : Hid (atB l rev = false) := by show _ = _; unfold atB; rw [h0]; rfl
    have HV : Hid (atV l rev = zeroV) := by show _ = _; unfold atV; rw [HL.out]; rfl
    rw [HL.out, HV.out]
    rw [h0, show (((0 : Nat) : Int) - 1) = -1 by omega] at HC
    clear h0 hcl HL HV
    go_enter Try.func10, Try.ntmps10
    go_wp2_with fail
    rw [← HW0.out]
    refine HC.out.mono ?_
    rintro e w2 ⟨rfl, hb⟩
    have HB2 : Hid (Below W0.heap.size W0 w2) := hb
    have hk2 := (HB2.out.block _ hlt0).trans HK0.out
    have f0 := frz hk2 0
    have f1 := frz hk2 1
    have f2 := frz hk2 2
    obtain ⟨c0, c1, c2⟩ := cells3 hk2
    have HBX := Lib.hid (box3 HK0.out HB0.out HB2.out (.int .i64 0) (.string ⟨#[]⟩) (.bool false))
    clear hb hk2
    go_wp2
    obtain ⟨W2, hW2, d0, d1, d2, hb2⟩ := HBX.out
    rw [← hW2]
    exact bodyPost_ret (v := vb zeroV false) (by simp [results, Try.results10, go_sem, d0, d1, d2, vb, aggV, zeroV]; rfl) rfl ⟨rfl, hb2⟩
  · obtain ⟨m, hmm⟩ : ∃ m, cnt l rev = m + 1 := ⟨cnt l rev - 1, by omega⟩
    have hml : m < l.length := by omega
    have hga : goneAt l (cnt l rev - 1) = l[m].2.2 := by rw [hmm, show m + 1 - 1 = m by omega, gone_at hml]
    have HL : Hid (atB l rev = !l[m].2.2) := by show _ = _; unfold atB; rw [hga, decide_eq_true (by omega), Bool.true_and]
    have HG : Hid (l.getD (cnt l rev - 1) zeroV = l[m]) := by show _ = _; rw [hmm, show m + 1 - 1 = m by omega, getD_at hml]
    rw [hmm, show (((m + 1 : Nat) : Int) - 1) = (m : Int) by omega] at HC
    have hm0 : (0 : Int) ≤ (m : Int) := by omega
    have hmz : ¬ (m : Int) < 0 := by omega
    have hmi : (m : Int) < (l.length : Int) := by omega
    clear h0 hcl hmm hga
    cases hgn : l[m].2.2 with
    | true =>
      rw [hgn] at HL
      have HV : Hid (atV l rev = zeroV) := by show _ = _; unfold atV; rw [HL.out]; rfl
      rw [HL.out, HV.out]
      have HGN := Lib.hid hgn
      clear hgn HL HV HG
      go_enter Try.func10, Try.ntmps10
      go_wp2_with fail
      rw [← HW0.out]
      refine HC.out.mono ?_
      rintro e w2 ⟨rfl, hb⟩
      have HB2 : Hid (Below W0.heap.size W0 w2) := hb
      have hk2 := (HB2.out.block _ hlt0).trans HK0.out
      have f0 := frz hk2 0
      have f1 := frz hk2 1
      have f2 := frz hk2 2
      obtain ⟨c0, c1, c2⟩ := cells3 hk2
      have HBX := Lib.hid (box3 HK0.out HB0.out HB2.out (.int .i64 0) (.string ⟨#[]⟩) (.bool false))
      obtain ⟨g, off, rfl, hg, hat⟩ := rdv_at (HR.out.go hb) (by omega)
      obtain ⟨p0, p1, p2⟩ := hat m hml
      rw [HGN.out] at p2
      clear hb hk2 hat p0 p1 HGN
      go_wp2
      obtain ⟨W2, hW2, d0, d1, d2, hb2⟩ := HBX.out
      rw [← hW2]
      exact bodyPost_ret (v := vb zeroV false) (by simp [results, Try.results10, go_sem, d0, d1, d2, vb, aggV, zeroV]; rfl) rfl ⟨rfl, hb2⟩
    | false =>
      rw [hgn] at HL
      have HV : Hid (atV l rev = l[m]) := by show _ = _; unfold atV; rw [HL.out, HG.out]; rfl
      rw [HL.out, HV.out]
      have HGN := Lib.hid hgn
      clear hgn HL HV HG
      go_enter Try.func10, Try.ntmps10
      go_wp2_with fail
      rw [← HW0.out]
      refine HC.out.mono ?_
      rintro e w2 ⟨rfl, hb⟩
      have HB2 : Hid (Below W0.heap.size W0 w2) := hb
      have hk2 := (HB2.out.block _ hlt0).trans HK0.out
      have f0 := frz hk2 0
      have f1 := frz hk2 1
      have f2 := frz hk2 2
      obtain ⟨c0, c1, c2⟩ := cells3 hk2
      have HBX := Lib.hid (box3 HK0.out HB0.out HB2.out (.int .i64 l[m].1) (.string l[m].2.1) (.bool false))
      obtain ⟨g, off, rfl, hg, hat⟩ := rdv_at (HR.out.go hb) (by omega)
      obtain ⟨p0, p1, p2⟩ := hat m hml
      rw [HGN.out] at p2
      clear hb hk2 hat
      go_wp2
      obtain ⟨W2, hW2, d0, d1, d2, hb2⟩ := HBX.out
      rw [← hW2]
      exact bodyPost_ret (v := vb l[m] true) (by simp [results, Try.results10, go_sem, d0, d1, d2, vb, aggV, HGN.out]) rfl ⟨rfl, hb2⟩
theorem cmp_take {l : List Ver} {s j : Nat} (hj : j < l.length) : (l.take (j + 1)).drop s = (l.take j).drop s ++ (if s ≤ j then [l[j]] else []) := by
  rw [List.take_succ_eq_append_getElem hj]
  by_cases h : s ≤ j
  · rw [if_pos h, List.drop_append_of_le_length (by rw [List.length_take]; omega)]
  · rw [if_neg h, List.append_nil, List.drop_eq_nil_of_le (by simp; omega), List.drop_eq_nil_of_le (by simp; omega)]
theorem spr_le_iff {l : List Ver} {rev : Int} {j : Nat} (hj : j < l.length) : spr l rev ≤ j ↔ (((cnt l rev : Nat) : Int) - 1 < j ∨ ((j : Int) = ((cnt l rev : Nat) : Int) - 1 ∧ l[j].2.2 = false)) := by
  unfold spr
  by_cases h0 : cnt l rev = 0
  · rw [if_pos h0, h0]; simp; omega
  · rw [if_neg h0]
    have hcl := cnt_le l rev
    have hg : goneAt l (cnt l rev - 1) = (l[cnt l rev - 1]'(by omega)).2.2 := gone_at (by omega)
    rw [hg]
    cases hh : (l[cnt l rev - 1]'(by omega)).2.2 with
    | true =>
      rw [if_pos rfl]
      constructor
      · intro h; left; omega
      · rintro (h | ⟨h, h2⟩)
        · omega
        · have e : cnt l rev - 1 = j := by omega
          subst e
          rw [hh] at h2; cases h2
    | false =>
      rw [if_neg (by decide)]
      constructor
      · intro h
        by_cases e : cnt l rev - 1 = j
        · subst e
          right; exact ⟨by omega, hh⟩
        · left; omega
      · rintro (h | ⟨h, _⟩) <;> omega
end Go.Proofs.Ytfilammedofdoaa.Cn
