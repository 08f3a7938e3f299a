/- The contract of package pct's Encode: for every text of at most five hundred bytes. -/
import Derived.Test.YtflhapnanhbcgaaDoorPcDec
namespace Go.Proofs.YtflhapnanhbcgaaDoor.Pc
open Go.RowKit Jt
set_option linter.unusedSimpArgs false
set_option linter.unusedVariables false

theorem and15_all : ∀ n : Fin 256, bits .and .u8 (n.val : Int) 15 = (n.val : Int) % 16 := by decide +kernel
theorem and15 (c : UInt8) : bits .and .u8 (c.toNat : Int) 15 = ((c.toNat % 16 : Nat) : Int) := by
  have := and15_all ⟨c.toNat, c.toNat_lt⟩
  simp only at this
  rw [this]; omega
theorem dig_lit : (ByteArray.mk #[48, 49, 50, 51, 52, 53, 54, 55, 56, 57, 65, 66, 67, 68, 69, 70]) = mkS hexU := rfl
theorem hexU_at (F : ByteArray) (h : mkS hexU = F) (i : Nat) (hi : i < F.size) : ((F[i].toNat : Nat) : Int) = ((hxU i).toNat : Int) := by
  subst h
  rw [← data_at hi (by rw [← size_l]; exact hi)]
  unfold hxU
  rw [List.getD, List.getElem?_eq_getElem (by rw [size_l] at hi; exact hi)]
  rfl
set_option maxRecDepth 100000 in
set_option maxHeartbeats 8000000 in
theorem Encode_c (s : ByteArray) (w : World) (hs : s.size ≤ 20000) :
    Calls Tryd.prog 13 #[.string s] w fun e w' => e = .returned (.string (mkS (encL s.data.toList))) ∧ Below w.heap.size w w' := by
  have hsl := Lib.hid (size_l s)
  have HN : Hid (Bld w.heap.size (encL (s.data.toList.take 0)) _) := Bld.new w
  have HB0 := Lib.hid ((Below.refl w.heap.size w).alloc (Nat.le_refl _) (.cells #[.pointer none, .slice none 0 0] 41))
  go_enter Tryd.func13, Tryd.ntmps13
  go_wp2
  go_loopw [8] (fun v wr => ∃ k : Nat, k ≤ s.size ∧ v = .int .i64 (k : Int) ∧ Bld w.heap.size (encL (s.data.toList.take k)) wr ∧ Below w.heap.size w wr) (fun v _ => s.size - (intOf v).toNat)
  case atStart => exact ⟨0, by omega, rfl, HN.out, HB0.out⟩
  case round =>
    clear HN HB0
    obtain ⟨k, hk, rfl, hbld, hB⟩ := hrel
    have HBL := Lib.hid hbld
    have HB := Lib.hid hB
    clear hbld hB
    by_cases hlt : k < s.size
    · have hl : k < s.data.toList.length := by rw [← hsl.out]; exact hlt
      have hda : s.data.toList[k] = s[k] := data_at hlt hl
      have hen := enc_snoc hl
      rw [hda] at hen
      have hle := enc_len (s.data.toList.take k)
      have htl : (s.data.toList.take k).length ≤ k := List.length_take_le _ _
      have HP := Lib.hid (fun W => plain_c s[k] W)
      revert HBL hle hen
      generalize encL (s.data.toList.take k) = acc
      intro HBL hen hle
      have hac : acc.length ≤ 60000 := by omega
      have HWB := Lib.hid (fun (W : World) (l : List UInt8) (c : UInt8) (z : Int) (hz : z = (c.toNat : Int)) (hl : l.length ≤ 60100) (h : Bld w.heap.size l W) => wbyte_c w.heap.size l c z hz W h (by omega))
      cases hp : plnB s[k] with
      | true =>
        rw [hp] at HP
        have e1 : encB s[k] = [s[k]] := by unfold encB; rw [if_pos hp]
        rw [e1] at hen
        have HEN := Lib.hid hen
        clear hda hen e1 hp hle htl
        go_wp2_with (first | (go_at_call 22; refine (HP.out _).mono ?_; rintro e w' ⟨rfl, rfl⟩) | (go_at_call 11; refine (HWB.out _ acc s[k] _ rfl (by omega) HBL.out).mono ?_; rintro e w3 ⟨rfl, hbl3, hb3⟩; have HBL3 := Lib.hid hbl3; have HB3 := Lib.hid hb3; clear hbl3 hb3))
        go_roundw
        case rel => exact ⟨k + 1, by omega, by go_num, by rw [HEN.out]; exact HBL3.out, HB.out.trans HB3.out⟩
        case measure => simp [intOf]; omega
      | false =>
        rw [hp] at HP
        have e1 : encB s[k] = [37, hxU (s[k].toNat / 16), hxU (s[k].toNat % 16)] := by unfold encB; rw [if_neg (by rw [hp]; decide)]
        rw [e1] at hen
        have HEN := Lib.hid hen
        have ha := and15 s[k]
        have c0 : 0 ≤ ((s[k].toNat : Nat) : Int) := by omega
        have c9 : ((s[k].toNat : Nat) : Int) ≤ 255 := by have := s[k].toNat_lt; omega
        clear hda hen e1 hp hle htl
        rw [dig_lit]
        generalize hF : mkS hexU = F
        have hFs : F.size = 16 := by rw [← hF]; rfl
        have HX := Lib.hid (fun i hi => hexU_at F hF i hi)
        clear hF
        go_wp2_with (go_at_call 22; refine (HP.out _).mono ?_; rintro e w' ⟨rfl, rfl⟩)
        refine (HWB.out _ acc 37 _ rfl (by omega) HBL.out).mono ?_
        rintro e w3 ⟨rfl, hbl3, hb3⟩
        have HBL3 := Lib.hid hbl3
        have HB3 := Lib.hid hb3
        clear hbl3 hb3
        have hF1 : s[k].toNat / 16 < F.size := by have := s[k].toNat_lt; omega
        have hF2 : s[k].toNat % 16 < F.size := by omega
        go_wp2_with fail
        refine (HWB.out _ (acc ++ [37]) (hxU (s[k].toNat / 16)) _ (HX.out _ hF1) (by rw [List.length_append]; simp; omega) HBL3.out).mono ?_
        rintro e w4 ⟨rfl, hbl4, hb4⟩
        have HBL4 := Lib.hid hbl4
        have HB4 := Lib.hid hb4
        clear hbl4 hb4
        go_wp2_with fail
        refine (HWB.out _ (acc ++ [37] ++ [hxU (s[k].toNat / 16)]) (hxU (s[k].toNat % 16)) _ (HX.out _ hF2) (by rw [List.length_append, List.length_append]; simp; omega) HBL4.out).mono ?_
        rintro e w5 ⟨rfl, hbl5, hb5⟩
        have HBL5 := Lib.hid hbl5
        have HB5 := Lib.hid hb5
        clear hbl5 hb5
        go_wp2
        go_roundw
        case rel => exact ⟨k + 1, by omega, by go_num, by rw [HEN.out]; have := HBL5.out; rw [List.append_assoc, List.append_assoc] at this; exact this, ((HB.out.trans HB3.out).trans HB4.out).trans HB5.out⟩
        case measure => simp [intOf]; omega
    · have htk : s.data.toList.take k = s.data.toList := List.take_of_length_le (by rw [← hsl.out]; omega)
      rw [htk] at HBL
      have HST := Lib.hid (str_c w.heap.size _ wr HBL.out)
      clear htk
      go_wp2_with (go_at_call 14; refine HST.out.mono ?_; rintro e w4 ⟨rfl, hb4⟩; have HB4 := Lib.hid hb4; clear hb4)
      go_ret
      exact ⟨rfl, HB.out.trans HB4.out⟩
end Go.Proofs.YtflhapnanhbcgaaDoor.Pc
