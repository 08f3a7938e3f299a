/- Contract of the document's own Hex: for every text of at most a thousand bytes. -/
import Derived.Test.YtmnodjbmaifglaaDoorNuHexes
namespace Go.Proofs.YtmnodjbmaifglaaDoor.Nu
open Go.RowKit
set_option linter.unusedSimpArgs false
set_option linter.unusedVariables false

theorem hex_big {l : List UInt8} (ha : l.all (okD 16) = true) (h : 8 < (stripL l).length) : ¬ val 16 l ≤ 2147483647 := by
  have := strip_big (.inr rfl) l ha 8 h (by decide)
  have e : (16 : Int) ^ 8 = 4294967296 := by decide
  omega
theorem hex_small {l : List UInt8} (ha : l.all (okD 16) = true) (h : (stripL l).length < 8) : val 16 l ≤ 2147483647 := by
  have h1 := strip_small (.inr rfl) l ha
  have h2 := pow_mono (B := 16) (.inr rfl) (n := (stripL l).length) (m := 7) (by omega)
  have e : (16 : Int) ^ 7 = 268435456 := by decide
  omega
theorem hex_eight {l : List UInt8} (ha : l.all (okD 16) = true) (h : (stripL l).length = 8) (b : UInt8) (hb : (stripL l).getD 0 0 = b) : (val 16 l ≤ 2147483647 ↔ hvU b ≤ 7) := by
  have hs := strip_all _ l ha
  have hv := strip_val 16 l
  cases e : stripL l with
  | nil => rw [e] at h; simp at h
  | cons c t =>
    rw [e] at h hs hv hb
    have hc : c = b := by simpa [List.getD] using hb
    subst hc
    rw [List.all_cons, Bool.and_eq_true] at hs
    have hl : t.length = 7 := by simpa using h
    have hb2 := okD_bd hs.1
    have hv2 := val_bd (.inr rfl) t hs.2
    rw [val_cons, hl] at hv
    rw [hl] at hv2
    have e7 : (16 : Int) ^ 7 = 268435456 := by decide
    rw [e7] at hv hv2
    omega
theorem ok16 (b : UInt8) : okD 16 b = decide (0 ≤ hv (b.toNat : Int)) := by
  unfold okD hvU
  have := (hv_bd (b.toNat : Int)).2
  rw [Bool.eq_iff_iff]
  simp only [decide_eq_true_eq]
  omega

/-- the rest of Hex behind the test of its digits: the loop that reads them -/
def H2 (t : ByteArray) (w : World) (k : Nat) (v : Value) (wr : World) : Prop := v = .int .i64 (val 16 (t.data.toList.take k)) ∧ Below w.heap.size w wr

set_option maxRecDepth 100000 in
set_option maxHeartbeats 2000000 in
theorem hex_r (s : ByteArray) (w : World) (hs : s.size ≤ 1000) : Calls Tryd.prog 27 #[.string s] w fun e w' => e = .returned (.tuple #[.int .i64 (rdN 16 2147483647 s.data.toList), .int .i64 (rdE 16 2147483647 s.data.toList)]) ∧ Below w.heap.size w w' := by
  have hsl := Lib.hid (Lib.size_eq s)
  go_enter Tryd.func27, Tryd.ntmps27
  go_wp2
  go_loopw [4] (fun i wr => ∃ k : Nat, k ≤ s.size ∧ i = .int .i64 k ∧ (s.data.toList.take k).all (okD 16) = true ∧ Below w.heap.size w wr) (fun i _ => s.size - (intOf i).toNat)
  case atStart => exact ⟨0, by omega, rfl, rfl, Below.refl _ _⟩
  case round =>
    obtain ⟨k, hk, rfl, hal, hB⟩ := hrel
    have HA := Lib.hid hal
    have HB := Lib.hid hB
    clear hal hB
    by_cases hlt : k < s.size
    · have h0 : 0 ≤ ((s[k].toNat : Nat) : Int) := by omega
      have h1 : ((s[k].toNat : Nat) : Int) ≤ 255 := by have := s[k].toNat_lt; omega
      have HD := Lib.hid (fun W => digit_r (s[k].toNat : Int) W h0 h1)
      by_cases hd : 0 ≤ hv (s[k].toNat : Int)
      · have HOK : Hid ((s.data.toList.take (k + 1)).all (okD 16) = true) := all_snoc (p := okD 16) hlt HA.out (by rw [ok16]; exact decide_eq_true hd)
        revert HD hd
        generalize hv (s[k].toNat : Int) = d
        intro HD hd
        go_wp2_with fail
        refine (HD.out _).mono ?_
        rintro e w1 ⟨rfl, hb1⟩
        have B1 := Lib.hid hb1
        clear hb1 HD
        go_wp2
        go_roundw
        case rel => exact ⟨k + 1, by omega, by go_num, HOK.out, HB.out.trans (B1.out.mono HB.out.size)⟩
        case measure => simp [intOf]; omega
      · have HN : Hid (¬ (s.data.toList ≠ [] ∧ s.data.toList.all (okD 16) = true)) := fun g => by
          have := all_no (p := okD 16) hlt (by rw [ok16]; exact decide_eq_false hd)
          rw [g.2] at this; cases this
        have hd2 : hv (s[k].toNat : Int) < 0 := by omega
        clear hd
        revert HD hd2
        generalize hv (s[k].toNat : Int) = d
        intro HD hd2
        go_wp2_with fail
        refine (HD.out _).mono ?_
        rintro e w1 ⟨rfl, hb1⟩
        have B1 := Lib.hid hb1
        clear hb1 HD
        go_wp2
        go_ret2
        exact ⟨ret2_ii (rd_no HN.out).1.symm (rd_no HN.out).2.symm, HB.out.trans (B1.out.mono HB.out.size)⟩
    · have HAL : Hid (s.data.toList.all (okD 16) = true) := by
        have h := HA.out
        rw [List.take_of_length_le (by rw [← hsl.out]; omega)] at h
        exact h
      clear HA
      by_cases hz : s.size = 0
      · have hem := empty_of hz
        have HN : Hid (¬ (s.data.toList ≠ [] ∧ s.data.toList.all (okD 16) = true)) := fun g => g.1 (List.length_eq_zero_iff.1 (by rw [← hsl.out]; exact hz))
        clear hz
        go_wp2
        go_ret2
        exact ⟨ret2_ii (rd_no HN.out).1.symm (rd_no HN.out).2.symm, HB.out⟩
      have hem := empty_no hz
      have HNE := Lib.hid (ne_of hz)
      have HS := Lib.hid (fun W => strip_r s W hs)
      have hts : (mkS (stripL s.data.toList)).size ≤ 1000 := by rw [size_mkS]; have := (strip_len s.data.toList).1; rw [← Lib.size_eq] at this; omega
      have ht1 : 1 ≤ (mkS (stripL s.data.toList)).size := by rw [size_mkS]; exact (strip_len s.data.toList).2 HNE.out
      have HTL : Hid ((mkS (stripL s.data.toList)).data.toList = stripL s.data.toList) := data_mkS _
      clear hz
      go_wp2_with fail
      refine (HS.out _).mono ?_
      rintro e w' ⟨rfl, rfl⟩
      clear HS
      revert hts ht1 HTL
      generalize mkS (stripL s.data.toList) = t
      intro hts ht1 HTL
      have htl := Lib.hid (Lib.size_eq t)
      have HTA : Hid (t.data.toList.all (okD 16) = true) := by show t.data.toList.all (okD 16) = true; rw [HTL.out]; exact strip_all _ _ HAL.out
      have HTV : Hid (val 16 t.data.toList = val 16 s.data.toList) := by show val 16 t.data.toList = _; rw [HTL.out]; exact strip_val _ _
      by_cases h8 : 8 < t.size
      · have h8' : (8 : Int) < (t.size : Int) := by omega
        have HL : Hid (2147483647 < val 16 s.data.toList) := by have h := hex_big HAL.out (l := s.data.toList) (by have := htl.out; rw [HTL.out] at this; omega); show 2147483647 < val 16 s.data.toList; omega
        go_wp2
        go_ret2
        exact ⟨ret2_ii (rd_long ⟨HNE.out, HAL.out⟩ (by have := HL.out; omega)).1.symm (rd_long ⟨HNE.out, HAL.out⟩ (by have := HL.out; omega)).2.symm, HB.out⟩
      have h8n : ¬ (8 : Int) < (t.size : Int) := by omega
      have ht0 : 0 < t.size := by omega
      by_cases h8e : t.size = 8
      · have q0 : 0 ≤ ((t[0].toNat : Nat) : Int) := by omega
        have q1 : ((t[0].toNat : Nat) : Int) ≤ 255 := by have := t[0].toNat_lt; omega
        have HD := Lib.hid (fun W => digit_r (t[0].toNat : Int) W q0 q1)
        have HX := Lib.hid (hex_eight HAL.out (by rw [← HTL.out, ← htl.out]; exact h8e) t[0] (by rw [← HTL.out, getD_at t 0 ht0]))
        have e8 : ((t.size : Int) == 8) = true := by simp [h8e]
        clear h8 h8e
        by_cases h7 : hv (t[0].toNat : Int) ≤ 7
        · have HL : Hid (val 16 s.data.toList ≤ 2147483647) := HX.out.2 h7
          clear HX
          revert HD h7
          generalize hv (t[0].toNat : Int) = d
          intro HD h7
          go_wp2_with fail
          refine (HD.out _).mono ?_
          rintro e w1 ⟨rfl, hb1⟩
          have B1 : Hid (Below w.heap.size w w1) := HB.out.trans (hb1.mono HB.out.size)
          clear hb1 HD
          go_wp2
          go_loopw [5, 6] (fun v i wr => ∃ j : Nat, j ≤ t.size ∧ i = .int .i64 j ∧ H2 t w j v wr) (fun _ i _ => t.size - (intOf i).toNat)
          case atStart => exact ⟨0, by omega, rfl, by simp [val], B1.out⟩
          case round =>
            rename World => wq
            obtain ⟨j, hj, rfl, rfl, hW⟩ := hrel
            have HW := Lib.hid hW
            have haj : (t.data.toList.take j).all (okD 16) = true := List.all_eq_true.2 fun x hx => List.all_eq_true.1 HTA.out x (List.mem_of_mem_take hx)
            have v0 := (val_bd (B := 16) (.inr rfl) _ haj).1
            have v1 : val 16 (t.data.toList.take j) ≤ 2147483647 := Int.le_trans (val_take_le (.inr rfl) _ HTA.out j) (by rw [HTV.out]; exact HL.out)
            clear haj hW
            by_cases hlt2 : j < t.size
            · have g0 : 0 ≤ ((t[j].toNat : Nat) : Int) := by omega
              have g1 : ((t[j].toNat : Nat) : Int) ≤ 255 := by have := t[j].toNat_lt; omega
              have HD := Lib.hid (fun W => digit_r (t[j].toNat : Int) W g0 g1)
              have HSV : Hid (val 16 (t.data.toList.take (j + 1)) = val 16 (t.data.toList.take j) * 16 + hv (t[j].toNat : Int)) := by
                show val 16 (t.data.toList.take (j + 1)) = _
                rw [take_snoc hlt2, val_snoc]; rfl
              have hd0 := (hv_bd (t[j].toNat : Int)).1
              have hd1 := (hv_bd (t[j].toNat : Int)).2
              revert HSV HD hd0 hd1
              generalize hv (t[j].toNat : Int) = d
              intro HD HSV hd0 hd1
              go_wp2_with fail
              refine (HD.out _).mono ?_
              rintro e w2 ⟨rfl, hb2⟩
              have B2 := Lib.hid hb2
              clear hb2 HD
              revert HSV v0 v1
              generalize val 16 (t.data.toList.take j) = v
              intro v0 v1 HSV
              go_wp2
              go_roundw
              case rel => exact ⟨j + 1, by omega, by go_num, by rw [HSV.out]; go_num, HW.out.trans (B2.out.mono HW.out.size)⟩
              case measure => simp [intOf]; omega
            · have HT : Hid (t.data.toList.take j = t.data.toList) := List.take_of_length_le (by rw [← htl.out]; omega)
              go_wp2
              go_ret2
              exact ⟨ret2_ii (by rw [(rd_yes ⟨HNE.out, HAL.out⟩ HL.out).1, HT.out, HTV.out]) (rd_yes ⟨HNE.out, HAL.out⟩ HL.out).2.symm, HW.out⟩
        · have h7n : 7 < hv (t[0].toNat : Int) := by omega
          have HL : Hid (2147483647 < val 16 s.data.toList) := by
            show 2147483647 < val 16 s.data.toList
            have : ¬ val 16 s.data.toList ≤ 2147483647 := fun h => h7 (HX.out.1 h)
            omega
          clear HX h7
          revert HD h7n
          generalize hv (t[0].toNat : Int) = d
          intro HD h7n
          go_wp2_with fail
          refine (HD.out _).mono ?_
          rintro e w1 ⟨rfl, hb1⟩
          have B1 : Hid (Below w.heap.size w w1) := HB.out.trans (hb1.mono HB.out.size)
          clear hb1 HD
          go_wp2
          go_ret2
          exact ⟨ret2_ii (rd_long ⟨HNE.out, HAL.out⟩ (by have := HL.out; omega)).1.symm (rd_long ⟨HNE.out, HAL.out⟩ (by have := HL.out; omega)).2.symm, B1.out⟩
      · have e8 : ((t.size : Int) == 8) = false := by simp; omega
        have HL : Hid (val 16 s.data.toList ≤ 2147483647) := hex_small HAL.out (by have := htl.out; rw [HTL.out] at this; omega)
        have B1 : Hid (Below w.heap.size w wr) := HB.out
        clear h8 h8e
        go_wp2
        go_loopw [5, 6] (fun v i wr => ∃ j : Nat, j ≤ t.size ∧ i = .int .i64 j ∧ H2 t w j v wr) (fun _ i _ => t.size - (intOf i).toNat)
        case atStart => exact ⟨0, by omega, rfl, by simp [val], B1.out⟩
        case round =>
          rename World => wq
          obtain ⟨j, hj, rfl, rfl, hW⟩ := hrel
          have HW := Lib.hid hW
          have haj : (t.data.toList.take j).all (okD 16) = true := List.all_eq_true.2 fun x hx => List.all_eq_true.1 HTA.out x (List.mem_of_mem_take hx)
          have v0 := (val_bd (B := 16) (.inr rfl) _ haj).1
          have v1 : val 16 (t.data.toList.take j) ≤ 2147483647 := Int.le_trans (val_take_le (.inr rfl) _ HTA.out j) (by rw [HTV.out]; exact HL.out)
          clear haj hW
          by_cases hlt2 : j < t.size
          · have g0 : 0 ≤ ((t[j].toNat : Nat) : Int) := by omega
            have g1 : ((t[j].toNat : Nat) : Int) ≤ 255 := by have := t[j].toNat_lt; omega
            have HD := Lib.hid (fun W => digit_r (t[j].toNat : Int) W g0 g1)
            have HSV : Hid (val 16 (t.data.toList.take (j + 1)) = val 16 (t.data.toList.take j) * 16 + hv (t[j].toNat : Int)) := by
              show val 16 (t.data.toList.take (j + 1)) = _
              rw [take_snoc hlt2, val_snoc]; rfl
            have hd0 := (hv_bd (t[j].toNat : Int)).1
            have hd1 := (hv_bd (t[j].toNat : Int)).2
            revert HSV HD hd0 hd1
            generalize hv (t[j].toNat : Int) = d
            intro HD HSV hd0 hd1
            go_wp2_with fail
            refine (HD.out _).mono ?_
            rintro e w2 ⟨rfl, hb2⟩
            have B2 := Lib.hid hb2
            clear hb2 HD
            revert HSV v0 v1
            generalize val 16 (t.data.toList.take j) = v
            intro v0 v1 HSV
            go_wp2
            go_roundw
            case rel => exact ⟨j + 1, by omega, by go_num, by rw [HSV.out]; go_num, HW.out.trans (B2.out.mono HW.out.size)⟩
            case measure => simp [intOf]; omega
          · have HT : Hid (t.data.toList.take j = t.data.toList) := List.take_of_length_le (by rw [← htl.out]; omega)
            go_wp2
            go_ret2
            exact ⟨ret2_ii (by rw [(rd_yes ⟨HNE.out, HAL.out⟩ HL.out).1, HT.out, HTV.out]) (rd_yes ⟨HNE.out, HAL.out⟩ HL.out).2.symm, HW.out⟩
end Go.Proofs.YtmnodjbmaifglaaDoor.Nu
