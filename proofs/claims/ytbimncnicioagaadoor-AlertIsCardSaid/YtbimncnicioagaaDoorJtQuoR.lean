/- The contract of the document's Quote: a text in quotes; for every text of at most three hundred bytes. -/
import Derived.Test.YtbimncnicioagaaDoorJtQuo
namespace Go.Proofs.YtbimncnicioagaaDoor.Jt
open Go.RowKit
set_option linter.unusedSimpArgs false
set_option linter.unusedVariables false

theorem app_l (a : List UInt8) (x : ByteArray) (b : List UInt8) (h : x.data.toList = b) : mkS a ++ x = mkS (a ++ b) := mkS_of (by rw [← h]; simp [mkS])
theorem one_l (s : ByteArray) (k : Nat) (h : k < s.size) : (s.extract k (k + 1)).data.toList = [s[k]] := by
  rw [extract_cut]
  unfold cutL
  rw [show k + 1 - k = 1 by omega, drop_at (by rw [← size_l]; exact h), data_at h]; rfl
set_option maxRecDepth 100000 in
set_option maxHeartbeats 16000000 in
theorem quoteR_c (s : ByteArray) (w : World) (hs : s.size ≤ 300) : Calls Tryd.prog 28 #[.string s] w fun e w' => e = .returned (.string (mkS (quoL s.data.toList))) ∧ w = w' := by
  have hsl := Lib.hid (size_l s)
  have HL0 : Hid (ByteArray.mk #[34] = mkS (34 :: quL (s.data.toList.take 0))) := rfl
  go_enter Tryd.func28, Tryd.ntmps28
  go_wp2
  go_loop [3, 4] (fun o i => ∃ k : Nat, k ≤ s.size ∧ i = .int .i64 k ∧ o = .string (mkS (34 :: quL (s.data.toList.take k)))) (fun _ i => s.size - (intOf i).toNat)
  case atStart => exact ⟨0, by omega, rfl, rfl⟩
  case round =>
    obtain ⟨k, hk, rfl, rfl⟩ := hrel
    have hql := quL_len (s.data.toList.take k)
    have htl : (s.data.toList.take k).length ≤ k := List.length_take_le _ _
    by_cases hlt : k < s.size
    · have hl : k < s.data.toList.length := by rw [← hsl.out]; exact hlt
      have HSN : Hid (34 :: quL (s.data.toList.take (k + 1)) = (34 :: quL (s.data.toList.take k)) ++ quB s[k]) := by
        show 34 :: quL (s.data.toList.take (k + 1)) = _
        rw [quo_snoc hl, data_at hlt hl]; rfl
      have hoz : (mkS (34 :: quL (s.data.toList.take k))).size ≤ 2000 := by rw [size_mkS, List.length_cons]; omega
      have HO1 : Hid ((s.extract k (k + 1)).data.toList = [s[k]]) := one_l s k hlt
      have HAP := Lib.hid (fun (x : ByteArray) (b : List UInt8) => app_l (34 :: quL (s.data.toList.take k)) x b)
      have HAQ := Lib.hid (fun (y : List UInt8) (x : ByteArray) (b : List UInt8) => app_l y x b)
      have hlt' : (k : Int) < (s.size : Int) := by omega
      have hk0 : (0 : Int) ≤ (k : Int) := by omega
      have hsx : (s.extract k (k + 1)).size = 1 := by rw [ByteArray.size_extract]; omega
      have HQB : Hid (quB s[k] = quB s[k]) := rfl
      have HNB : Hid (nb s[k] = (s[k].toNat : Int)) := rfl
      have hb0 : 0 ≤ ((s[k].toNat : Nat) : Int) := by omega
      have hb9 : ((s[k].toNat : Nat) : Int) ≤ 255 := by have := s[k].toNat_lt; omega
      have HPH := Lib.hid (fun W => Nu.puthexR_pos (s[k].toNat + 1) s[k].toNat W (by omega) (by have := s[k].toNat_lt; omega))
      clear hql htl
      revert HAP hoz
      generalize hA : mkS (34 :: quL (s.data.toList.take k)) = A
      have HA := Lib.hid hA
      clear hA
      intro hoz HAP
      by_cases g8 : (s[k].toNat : Int) = 8
      · have HB : Hid (quB s[k] = [92, 98]) := by
          show quB s[k] = _
          have hc : s[k] = 8 := nb_inj g8
          rw [hc]; rfl
        have q8 : ((s[k].toNat : Int) == 8) = true := by simpa using g8
        clear g8 
        go_wp2
        go_round
        case rel => exact ⟨k + 1, by omega, by go_num, by rw [HSN.out, HB.out]; exact congrArg Value.string (HAP.out _ _ rfl)⟩
        case measure => simp [intOf]; omega
      have q8 : ((s[k].toNat : Int) == 8) = false := by simpa using g8
      by_cases g12 : (s[k].toNat : Int) = 12
      · have HB : Hid (quB s[k] = [92, 102]) := by
          show quB s[k] = _
          have hc : s[k] = 12 := nb_inj g12
          rw [hc]; rfl
        have q12 : ((s[k].toNat : Int) == 12) = true := by simpa using g12
        clear g12 g8
        go_wp2
        go_round
        case rel => exact ⟨k + 1, by omega, by go_num, by rw [HSN.out, HB.out]; exact congrArg Value.string (HAP.out _ _ rfl)⟩
        case measure => simp [intOf]; omega
      have q12 : ((s[k].toNat : Int) == 12) = false := by simpa using g12
      by_cases g10 : (s[k].toNat : Int) = 10
      · have HB : Hid (quB s[k] = [92, 110]) := by
          show quB s[k] = _
          have hc : s[k] = 10 := nb_inj g10
          rw [hc]; rfl
        have q10 : ((s[k].toNat : Int) == 10) = true := by simpa using g10
        clear g10 g8 g12
        go_wp2
        go_round
        case rel => exact ⟨k + 1, by omega, by go_num, by rw [HSN.out, HB.out]; exact congrArg Value.string (HAP.out _ _ rfl)⟩
        case measure => simp [intOf]; omega
      have q10 : ((s[k].toNat : Int) == 10) = false := by simpa using g10
      by_cases g13 : (s[k].toNat : Int) = 13
      · have HB : Hid (quB s[k] = [92, 114]) := by
          show quB s[k] = _
          have hc : s[k] = 13 := nb_inj g13
          rw [hc]; rfl
        have q13 : ((s[k].toNat : Int) == 13) = true := by simpa using g13
        clear g13 g8 g12 g10
        go_wp2
        go_round
        case rel => exact ⟨k + 1, by omega, by go_num, by rw [HSN.out, HB.out]; exact congrArg Value.string (HAP.out _ _ rfl)⟩
        case measure => simp [intOf]; omega
      have q13 : ((s[k].toNat : Int) == 13) = false := by simpa using g13
      by_cases g9 : (s[k].toNat : Int) = 9
      · have HB : Hid (quB s[k] = [92, 116]) := by
          show quB s[k] = _
          have hc : s[k] = 9 := nb_inj g9
          rw [hc]; rfl
        have q9 : ((s[k].toNat : Int) == 9) = true := by simpa using g9
        clear g9 g8 g12 g10 g13
        go_wp2
        go_round
        case rel => exact ⟨k + 1, by omega, by go_num, by rw [HSN.out, HB.out]; exact congrArg Value.string (HAP.out _ _ rfl)⟩
        case measure => simp [intOf]; omega
      have q9 : ((s[k].toNat : Int) == 9) = false := by simpa using g9
      by_cases g34 : (s[k].toNat : Int) = 34
      · have HB : Hid (quB s[k] = [92] ++ [s[k]]) := by
          show quB s[k] = _
          have hc : s[k] = 34 := nb_inj g34
          rw [hc]; rfl
        have q34 : ((s[k].toNat : Int) == 34) = true := by simpa using g34
        have hA2 : (A ++ ⟨#[92]⟩).size ≤ 2001 := by rw [ByteArray.size_append]; show _ + 1 ≤ _; omega
        clear g34 g8 g12 g10 g13 g9
        go_wp2
        go_round
        case rel => exact ⟨k + 1, by omega, by go_num, by rw [HSN.out, HB.out]; exact congrArg Value.string (by rw [HAP.out ⟨#[92]⟩ [92] rfl, HAQ.out _ _ _ HO1.out, List.append_assoc])⟩
        case measure => simp [intOf]; omega
      have q34 : ((s[k].toNat : Int) == 34) = false := by simpa using g34
      by_cases g92 : (s[k].toNat : Int) = 92
      · have HB : Hid (quB s[k] = [92] ++ [s[k]]) := by
          show quB s[k] = _
          have hc : s[k] = 92 := nb_inj g92
          rw [hc]; rfl
        have q92 : ((s[k].toNat : Int) == 92) = true := by simpa using g92
        have hA2 : (A ++ ⟨#[92]⟩).size ≤ 2001 := by rw [ByteArray.size_append]; show _ + 1 ≤ _; omega
        clear g92 g8 g12 g10 g13 g9 g34
        go_wp2
        go_round
        case rel => exact ⟨k + 1, by omega, by go_num, by rw [HSN.out, HB.out]; exact congrArg Value.string (by rw [HAP.out ⟨#[92]⟩ [92] rfl, HAQ.out _ _ _ HO1.out, List.append_assoc])⟩
        case measure => simp [intOf]; omega
      have q92 : ((s[k].toNat : Int) == 92) = false := by simpa using g92
      have HG : Hid (quB s[k] = if (s[k].toNat : Int) < 32 then [92, 117, 48, 48, Nu.hxd (s[k].toNat / 16), Nu.hxd (s[k].toNat % 16)] else [s[k]]) := by
        show quB s[k] = _
        unfold quB
        rw [if_neg (by rw [HNB.out]; exact g34), if_neg (by rw [HNB.out]; exact g92), if_neg (by rw [HNB.out]; exact g8), if_neg (by rw [HNB.out]; exact g12), if_neg (by rw [HNB.out]; exact g10), if_neg (by rw [HNB.out]; exact g13), if_neg (by rw [HNB.out]; exact g9)]
        rfl
      clear g8 g12 g10 g13 g9 g34 g92
      by_cases g16 : (s[k].toNat : Int) < 16
      · have HB : Hid (quB s[k] = [92, 117, 48, 48, 48] ++ [Nu.hxd s[k].toNat]) := by
          show quB s[k] = _
          rw [HG.out, if_pos (by omega), show s[k].toNat / 16 = 0 by omega, show s[k].toNat % 16 = s[k].toNat by omega]; rfl
        have hA2 : (A ++ ⟨#[92, 117, 48, 48, 48]⟩).size ≤ 2005 := by rw [ByteArray.size_append]; show _ + 5 ≤ _; omega
        rw [Nu.hex_one (by omega)] at HPH
        have hp1 : (Nu.mkS [Nu.hxd s[k].toNat]).size = 1 := rfl
        clear HG
        go_wp2_with (go_at_call 41; refine (HPH.out _).mono ?_; rintro e w' ⟨rfl, rfl⟩)
        go_round
        case rel => exact ⟨k + 1, by omega, by go_num, by rw [HSN.out, HB.out]; exact congrArg Value.string (by rw [HAP.out ⟨#[92, 117, 48, 48, 48]⟩ [92, 117, 48, 48, 48] rfl, HAQ.out _ _ _ rfl, List.append_assoc]; rfl)⟩
        case measure => simp [intOf]; omega
      by_cases g32 : (s[k].toNat : Int) < 32
      · have HB : Hid (quB s[k] = [92, 117, 48, 48] ++ [Nu.hxd (s[k].toNat / 16), Nu.hxd (s[k].toNat % 16)]) := by
          show quB s[k] = _
          rw [HG.out, if_pos g32]; rfl
        have hA2 : (A ++ ⟨#[92, 117, 48, 48]⟩).size ≤ 2005 := by rw [ByteArray.size_append]; show _ + 4 ≤ _; omega
        have hh : Nu.hexL s[k].toNat = [Nu.hxd (s[k].toNat / 16), Nu.hxd (s[k].toNat % 16)] := by rw [Nu.hex_more (by omega), Nu.hex_one (by omega)]; rfl
        rw [hh] at HPH
        have hp1 : (Nu.mkS [Nu.hxd (s[k].toNat / 16), Nu.hxd (s[k].toNat % 16)]).size = 2 := rfl
        clear HG hh
        go_wp2_with (go_at_call 41; refine (HPH.out _).mono ?_; rintro e w' ⟨rfl, rfl⟩)
        go_round
        case rel => exact ⟨k + 1, by omega, by go_num, by rw [HSN.out, HB.out]; exact congrArg Value.string (by rw [HAP.out ⟨#[92, 117, 48, 48]⟩ [92, 117, 48, 48] rfl, HAQ.out _ _ _ rfl, List.append_assoc]; rfl)⟩
        case measure => simp [intOf]; omega
      have HB : Hid (quB s[k] = [s[k]]) := by show quB s[k] = _; rw [HG.out, if_neg g32]
      clear HG
      go_wp2
      go_round
      case rel => exact ⟨k + 1, by omega, by go_num, by rw [HSN.out, HB.out]; exact congrArg Value.string (HAP.out _ _ HO1.out)⟩
      case measure => simp [intOf]; omega
    · have htk : s.data.toList.take k = s.data.toList := List.take_of_length_le (by rw [← hsl.out]; omega)
      have hoz : (mkS (34 :: quL (s.data.toList.take k))).size ≤ 2000 := by rw [size_mkS, List.length_cons]; omega
      have HR : Hid (mkS (34 :: quL (s.data.toList.take k)) ++ ⟨#[34]⟩ = mkS (quoL s.data.toList)) := by
        show mkS (34 :: quL (s.data.toList.take k)) ++ ⟨#[34]⟩ = mkS (quoL s.data.toList)
        rw [htk, app_l _ ⟨#[34]⟩ [34] rfl]; rfl
      clear hql htl htk
      revert HR hoz
      generalize mkS (34 :: quL (s.data.toList.take k)) = A
      intro hoz HR
      go_wp2
      go_ret
      exact ⟨congrArg (fun z => Ending.returned (.string z)) HR.out, rfl⟩
end Go.Proofs.YtbimncnicioagaaDoor.Jt
