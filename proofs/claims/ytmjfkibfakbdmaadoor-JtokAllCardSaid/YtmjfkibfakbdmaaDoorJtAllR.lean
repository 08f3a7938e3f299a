/- The contract of the document's All: all tokens of a text, and where it goes wrong; for every text of at most a thousand bytes. -/
import Derived.Test.YtmjfkibfakbdmaaDoorJtAll
import Derived.Test.YtmjfkibfakbdmaaDoorJtRef5
namespace Go.Proofs.YtmjfkibfakbdmaaDoor.Jt
open Go.RowKit
set_option linter.unusedSimpArgs false
set_option linter.unusedVariables false

theorem infoTokR : (Tryd.prog.info? 29).map (fun i => (i.zero, i.size, i.bytes)) = some (some (.agg #[.int .i64 0, .int .i64 0, .int .i64 0, .string ⟨#[]⟩, .int .i64 0]), 5, 48) := by kernel_rfl
theorem tokA_six {l : List UInt8} {k : Nat} (h : (tokA l k).2 ≠ 6) : endP blkB l k < l.length := by
  rcases Nat.lt_or_ge (endP blkB l k) l.length with g | g
  · exact g
  · exact absurd (by unfold tokA; rw [if_pos g]) h
set_option maxRecDepth 100000 in
set_option maxHeartbeats 16000000 in
theorem AllR_c (s : ByteArray) (w : World) (hs : s.size ≤ 1000) : Calls Tryd.prog 13 #[.string s] w (AlP 29 s.data.toList w) := by
  have hsl := Lib.hid (size_l s)
  obtain ⟨i0, hi, hz0, hz1, hz2⟩ := info_parts infoTokR
  have HST : Hid (AlR 29 s.data.toList w (.slice none 0 0) (.int .i64 0) w) := ⟨0, [], rfl, by omega, by simp, ⟨rfl, .inl ⟨rfl, rfl⟩⟩, Below.refl _ _, by simp⟩
  go_enter Tryd.func13, Tryd.ntmps13
  go_wp2
  go_loopw [5, 6] (fun vl va wr => AlR 29 s.data.toList w vl va wr) (fun _ va _ => s.size + 1 - (intOf va).toNat)
  case atStart => exact HST.out
  case round =>
    clear HST
    obtain ⟨k, acc, rfl, hk, hacc, hown, hB, hal⟩ := hrel
    rw [← hsl.out] at hk
    have HO := Lib.hid hown
    have HB := Lib.hid hB
    have HAL := Lib.hid hal
    clear hown hB hal
    have hk' : (k : Int) ≤ (s.size : Int) := by omega
    have HN := Lib.hid (nextR_c s k wr hs hk)
    by_cases h0 : (tokA s.data.toList k).2 = 0
    · rw [h0] at HN
      have hbd := tokA_bd (l := s.data.toList) (k := k) (by rw [← hsl.out]; exact hk) h0
      have hA2 := HAL.out
      rw [all_step (by rw [← hsl.out]; exact hk) h0] at hA2
      have HA2 : Hid (allA s.data.toList 0 = ((acc ++ [(tokA s.data.toList k).1]) ++ (allA s.data.toList (tokA s.data.toList k).1.b).1, (allA s.data.toList (tokA s.data.toList k).1.b).2)) := by
        show allA s.data.toList 0 = _
        rw [hA2]; simp
      rw [← hsl.out] at hbd
      clear hA2 HAL h0
      revert HN hbd HA2
      generalize (tokA s.data.toList k).1 = T
      intro HN hbd HA2
      obtain ⟨tk, ta, tb, tt, tn⟩ := T
      simp only [ret2, tkV, tokV] at HN hbd HA2
      obtain ⟨hb1', hb2'⟩ := hbd
      go_wp2_with fail
      refine HN.out.mono ?_
      rintro e w1 ⟨rfl, hb1⟩
      have HB1 : Hid (Below w.heap.size w w1) := HB.out.trans (hb1.mono HB.out.size)
      have HO1 := Lib.hid (HO.out.go hb1)
      clear hb1
      have HD : Hid (∃ W2, W2 = (w1.alloc (.cells #[.int .i64 tk, .int .i64 ta, .int .i64 tb, .string (mkS tt), .int .i64 tn] 29)).alloc (.cells #[.int .i64 tk, .int .i64 ta, .int .i64 tb, .string (mkS tt), .int .i64 tn] 29) ∧ W2.heap[w1.heap.size]? = some (.cells #[.int .i64 tk, .int .i64 ta, .int .i64 tb, .string (mkS tt), .int .i64 tn] 29 (0, 0)) ∧
          W2.heap[w1.heap.size + 1]? = some (.cells #[.int .i64 tk, .int .i64 ta, .int .i64 tb, .string (mkS tt), .int .i64 tn] 29 (0, 0)) ∧ Below w1.heap.size w1 W2) := by
        refine ⟨_, rfl, (Below.heap_alloc _ _ _ (by simp)).trans (heap_alloc_new w1 _), ?_, ((Below.refl _ _).alloc (Nat.le_refl _) _).alloc (by simp) _⟩
        have := heap_alloc_new (w1.alloc (.cells #[.int .i64 tk, .int .i64 ta, .int .i64 tb, .string (mkS tt), .int .i64 tn] 29)) (.cells #[.int .i64 tk, .int .i64 ta, .int .i64 tb, .string (mkS tt), .int .i64 tn] 29)
        simpa using this
      obtain ⟨W2, hW2, hk2, hk3, hbW⟩ := HD.out
      have HK2 := Lib.hid hk2
      have HK3 := Lib.hid hk3
      have HBW := Lib.hid hbW
      have HOW := Lib.hid (HO1.out.go hbW)
      have HW2 := Lib.hid hW2
      clear HD hk2 hk3 hbW hW2
      go_wp2_with (first | (at_builtin; rw [← HW2.out]; refine wpList_append_own _ rfl _ _ 37 rfl w.heap.size 29 i0 _ 5 48 Tryd.underlying37 hi hz0 hz1 hz2 rfl (by decide) _ _ _ rfl HOW.out ⟨w1.heap.size + 1, 0, none⟩ 1 1 (tkC ⟨tk, ta, tb, tt, tn⟩) rfl rfl ?c1 ?c2 ?c3 ?c4 ?c5 ?_))
      case c1 =>
        intro j u hj
        have hj5 : j < 5 := by
          rcases Nat.lt_or_ge j 5 with h | h
          · exact h
          · rw [List.getElem?_eq_none (by show 5 ≤ j; exact h)] at hj; cases hj
        have ea : (⟨w1.heap.size + 1, 0, none⟩ : Addr).add j = ⟨w1.heap.size + 1, j, none⟩ := by unfold Addr.add; split <;> simp_all
        rw [ea, Ut.blk_cell HK3.out j]
        match j, hj5 with
        | 0, _ => exact hj
        | 1, _ => exact hj
        | 2, _ => exact hj
        | 3, _ => exact hj
        | 4, _ => exact hj
      case c2 => intro u hu; simp [tkC] at hu; rcases hu with rfl | rfl | rfl | rfl | rfl <;> rfl
      case c3 => unfold maxLen; omega
      case c4 => omega
      case c5 => have := HB1.out.size; have := HBW.out.size; omega
      intro v' w5 hown' hgrow _
      have HO5 : Hid (OwT 29 w.heap.size v' (acc ++ [⟨tk, ta, tb, tt, tn⟩]) w5) := by
        show OwT 29 w.heap.size v' (acc ++ [⟨tk, ta, tb, tt, tn⟩]) w5
        unfold OwT
        rw [tksC_snoc, List.length_append]
        exact hown'
      have HB5 : Hid (Below w.heap.size w w5) := by
        have hb := HB1.out.trans (HBW.out.mono HB1.out.size)
        exact hb.grown hgrow hb.size (fun k hk => (HOW.out.lt k hk).1)
      have c52 : w5.cell? ⟨w1.heap.size, 2, none⟩ = some (.int .i64 tb) := by
        have hlt := (Array.getElem?_eq_some_iff.1 HK2.out).1
        have hne : ¬ some w1.heap.size = u5.ownBlock := fun e => by
          have := (HO1.out.lt w1.heap.size e.symm).2
          omega
        have hk5 := (hgrow.block w1.heap.size hlt hne).trans HK2.out
        exact Ut.blk_cell hk5 2
      obtain ⟨ao, n', cap, rfl⟩ := HO5.out.sl
      clear hown' hgrow
      go_wp2
      go_roundw
      case rel => exact ⟨tb, acc ++ [⟨tk, ta, tb, tt, tn⟩], rfl, by rw [← hsl.out]; omega, by rw [List.length_append]; simp; omega, HO5.out, HB5.out, HA2.out⟩
      case measure => simp [intOf]; omega
    · by_cases h6 : (tokA s.data.toList k).2 = 6
      · have HA2 : Hid (allA s.data.toList 0 = (acc, s.size, 0)) := by
          show allA s.data.toList 0 = _
          rw [HAL.out, all_none h6, ← hsl.out]; simp
        rw [tokA_zero h0, h6, zT_v] at HN
        simp only [ret2, tokV] at HN
        clear HAL h0 h6
        go_wp2_with (go_at_call 10; refine HN.out.mono ?_; rintro e w1 ⟨rfl, hb1⟩; have HB1 : Hid (Below w.heap.size w w1) := HB.out.trans (hb1.mono HB.out.size); have HO1 := Lib.hid (HO.out.go hb1); clear hb1)
        go_ret3
        exact alp_mk HA2.out rfl (HO1.out.go ((Below.refl _ _).alloc (Nat.le_refl _) _)) (HB1.out.alloc HB1.out.size _)
      · have HA2 : Hid (allA s.data.toList 0 = (acc, endP blkB s.data.toList k, (tokA s.data.toList k).2)) := by
          show allA s.data.toList 0 = _
          rw [HAL.out, all_err h6 h0]; simp
        have hend := tokA_six h6
        rw [← hsl.out] at hend
        rw [tokA_zero h0, zT_v] at HN
        simp only [ret2, tokV] at HN
        have q6 : ((tokA s.data.toList k).2 == 6) = false := by simpa using h6
        have q0 : ((tokA s.data.toList k).2 != 0) = true := by simpa using h0
        clear HAL h0 h6
        revert HN HA2 q6 q0
        generalize (tokA s.data.toList k).2 = te
        intro HN HA2 q6 q0
        go_wp2_with (go_at_call 10; refine HN.out.mono ?_; rintro e w1 ⟨rfl, hb1⟩; have HB1 : Hid (Below w.heap.size w w1) := HB.out.trans (hb1.mono HB.out.size); have HO1 := Lib.hid (HO.out.go hb1); clear hb1)
        have HOA := Lib.hid (HO1.out.go ((Below.refl _ _).alloc (Nat.le_refl _) (.cells #[.int .i64 0, .int .i64 0, .int .i64 0, .string emS, .int .i64 0] 29)))
        have HBA := Lib.hid (HB1.out.alloc HB1.out.size (.cells #[.int .i64 0, .int .i64 0, .int .i64 0, .string emS, .int .i64 0] 29))
        go_loop [6] (fun i => ∃ j : Nat, j ≤ endP blkB s.data.toList k ∧ i = .int .i64 j ∧ endP blkB s.data.toList j = endP blkB s.data.toList k) (fun i => s.size - (intOf i).toNat)
        case atStart => exact ⟨k, endP_ge _ _ _, rfl, rfl⟩
        case round =>
          obtain ⟨j, hj, rfl, hej⟩ := hrel
          have HEJ := Lib.hid hej
          clear hej
          have hlt : j < s.size := by omega
          have hlt' : (j : Int) < (s.size : Int) := by omega
          have hl : j < s.data.toList.length := by rw [← hsl.out]; exact hlt
          have HY := Lib.hid (@endP_yes blkB s.data.toList j hl)
          have HNN := Lib.hid (@endP_no blkB s.data.toList j hl)
          have he : blkB s.data.toList[j] = blkI (s[j].toNat : Int) := by rw [data_at hlt hl]; rfl
          rw [he] at HY HNN
          have HC := Lib.hid (fun W => blank_r (s[j].toNat : Int) W)
          clear he
          cases hb : blkI (s[j].toNat : Int) with
          | true =>
            rw [hb] at HC HY HNN
            have HZ := Lib.hid (HY.out rfl)
            have hj2 := endP_ge blkB s.data.toList (j + 1)
            rw [HZ.out, HEJ.out] at hj2
            clear hb HY HNN
            go_wp2_with (go_at_call 21; refine (HC.out _).mono ?_; rintro e w' ⟨rfl, rfl⟩)
            go_round
            case rel => exact ⟨j + 1, hj2, by go_num, by rw [HZ.out]; exact HEJ.out⟩
            case measure => simp [intOf]; omega
          | false =>
            rw [hb] at HC HY HNN
            have HZ := Lib.hid (HNN.out rfl)
            have HJ : Hid (endP blkB s.data.toList k = j) := by show endP blkB s.data.toList k = j; rw [← HEJ.out, HZ.out]
            clear hb HY HNN
            go_wp2_with (go_at_call 21; refine (HC.out _).mono ?_; rintro e w' ⟨rfl, rfl⟩)
            go_ret3
            exact alp_mk HA2.out (by rw [HJ.out]; rfl) HOA.out HBA.out
end Go.Proofs.YtmjfkibfakbdmaaDoor.Jt
