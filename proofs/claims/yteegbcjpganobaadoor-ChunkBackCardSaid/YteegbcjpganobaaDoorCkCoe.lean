/- The contract of package chunk's Encode: for every body of at most five hundred bytes and any size; where the tables lie as the program's text lays them. -/
import Derived.Test.YteegbcjpganobaaDoorCkCod
namespace Go.Proofs.YteegbcjpganobaaDoor.Hd
open Go.RowKit Ch
set_option linter.unusedSimpArgs false
set_option linter.unusedVariables false

set_option maxRecDepth 100000 in
set_option maxHeartbeats 1000000 in
theorem Enc_c (s : ByteArray) (size : Int) (w : World) (hT : Nu.Tabs w) (hs : s.size ≤ 500) :
    Calls Tryd.prog 5 #[.string s, .int .i64 size] w fun e w' => e = .returned (.string (mkS (encC (max size 1).toNat s.data.toList))) ∧ Below w.heap.size w w' := by
  have HT := Lib.hid hT
  have HBD : Hid (Jt.Bld w.heap.size [] (w.alloc (.cells #[.pointer none, .slice none 0 0] 36))) := Jt.Bld.new w
  have HB0 : Hid (Below w.heap.size w (w.alloc (.cells #[.pointer none, .slice none 0 0] 36))) := (Below.refl _ _).alloc (Nat.le_refl _) _
  obtain ⟨N, hN⟩ : ∃ N, N = (max size 1).toNat := ⟨_, rfl⟩
  have hN1 : 1 ≤ N := by omega
  have hNI : max size 1 = (N : Int) := by omega
  rw [← hN]
  have hel := enc_len (s.data.toList.length + 1) N s.data.toList hN1 (by rw [← Lib.size_eq]; exact hs)
  have hel2 : (encC N s.data.toList).length ≤ 8 * s.data.toList.length + 5 := hel
  rw [← Lib.size_eq] at hel2
  clear hT hel
  obtain ⟨WA, hWA⟩ : ∃ WA, WA = w.alloc (.cells #[.pointer none, .slice none 0 0] 36) := ⟨_, rfl⟩
  rw [← hWA] at HBD HB0
  have HWA := Lib.hid hWA
  clear hWA hN
  go_enter Tryd.func5, Tryd.ntmps5
  go_wp2_with fail
  rw [← HWA.out]
  go_loopw [0] (fun bv wr => ∃ (r : ByteArray) (acc : List UInt8), bv = .string r ∧ r.size ≤ s.size ∧ Hid (acc ++ encC N r.data.toList = encC N s.data.toList) ∧ Hid (Jt.Bld w.heap.size acc wr) ∧ Hid (Below w.heap.size w wr)) (fun bv _ => strK bv)
  case atStart => exact ⟨s, [], rfl, Nat.le_refl _, Lib.hid rfl, HBD, HB0⟩
  case round =>
    obtain ⟨r, acc, rfl, hrs, HEQ, HBL, HB⟩ := hrel
    clear HBD HB0
    have hal : acc.length + (encC N r.data.toList).length ≤ 4005 := by
      have := congrArg List.length HEQ.out
      rw [List.length_append] at this
      omega
    by_cases h0 : 0 < r.size
    · obtain ⟨he, hne⟩ := ne0 h0
      have hrz : (0 : Int) < (r.size : Int) := by omega
      obtain ⟨m, hm⟩ : ∃ m, m = min N r.size := ⟨_, rfl⟩
      have hmI : min (N : Int) (r.size : Int) = (m : Int) := by omega
      have hm1 : 1 ≤ m := by omega
      have hm2 : m ≤ r.size := by omega
      have HPH := Lib.hid (fun W h => Nu.puthex_pos m W (by omega) h)
      have hxl : (Nu.hexL m).length ≤ 3 := (hex_ok (z := m) (by omega)).2.1
      have hxd : (Nu.mkS (Nu.hexL m)).data.toList = Nu.hexL m := rfl
      have hxz : (Nu.mkS (Nu.hexL m)).size ≤ 3 := by rw [Nu.size_mkS]; exact hxl
      have hcz : (ByteArray.mk #[13, 10]).size = 2 := rfl
      have HEN : Hid (encC N r.data.toList = Nu.hexL m ++ 13 :: 10 :: ((r.extract 0 m).data.toList ++ 13 :: 10 :: encC N (r.extract m r.size).data.toList)) := by
        show _ = _
        rw [encC_cons hN1 hne, ← Lib.size_eq, ← hm, ext_data0, ext_dataN]
        have ht : r.data.toList.take N = r.data.toList.take m := by
          rw [hm]
          by_cases hh : N ≤ r.size
          · rw [Nat.min_eq_left hh]
          · rw [Nat.min_eq_right (by omega), List.take_of_length_le (by rw [← Lib.size_eq]; omega), List.take_of_length_le (by rw [← Lib.size_eq]; omega)]
        have hd : r.data.toList.drop N = r.data.toList.drop m := by
          rw [hm]
          by_cases hh : N ≤ r.size
          · rw [Nat.min_eq_left hh]
          · rw [Nat.min_eq_right (by omega), List.drop_eq_nil_of_le (by rw [← Lib.size_eq]; omega), List.drop_eq_nil_of_le (by rw [← Lib.size_eq]; omega)]
        rw [ht, hd]
      rw [← hxd] at HEN
      clear hxl hxd hm hne
      generalize Nu.mkS (Nu.hexL m) = hx at HPH hxz HEN
      have hez : (r.extract 0 m).size ≤ 500 := by rw [ByteArray.size_extract]; omega
      have hen := congrArg List.length HEN.out
      simp only [List.length_append, List.length_cons] at hen
      have hz1 := Lib.size_eq hx
      have hz2 := Lib.size_eq (r.extract 0 m)
      have HW1 := Lib.hid (fun W h => Jt.wstr_c w.heap.size acc (hx ++ ⟨#[13, 10]⟩) W h (by rw [ByteArray.size_append, hcz]; omega))
      have HW2 := Lib.hid (fun W h => Jt.wstr_c w.heap.size (acc ++ (hx ++ ⟨#[13, 10]⟩ : ByteArray).data.toList) (r.extract 0 m) W h (by rw [List.length_append, ← Lib.size_eq, ByteArray.size_append, hcz]; omega))
      have HW3 := Lib.hid (fun W h => Jt.wstr_c w.heap.size (acc ++ (hx ++ ⟨#[13, 10]⟩ : ByteArray).data.toList ++ (r.extract 0 m).data.toList) ⟨#[13, 10]⟩ W h (by rw [List.length_append, List.length_append, ← Lib.size_eq, ← Lib.size_eq, ByteArray.size_append, hcz]; omega))
      have HRL : Hid (acc ++ (hx ++ ⟨#[13, 10]⟩ : ByteArray).data.toList ++ (r.extract 0 m).data.toList ++ (ByteArray.mk #[13, 10]).data.toList ++ encC N (r.extract m r.size).data.toList = encC N s.data.toList) := by
        show _ = _
        rw [← HEQ.out, HEN.out]
        simp
      have hrm : (r.extract m r.size).size < r.size := by rw [ByteArray.size_extract]; omega
      have hmr : (m : Int) ≤ (r.size : Int) := by omega
      have hm0 : (0 : Int) ≤ (m : Int) := by omega
      clear HEN hen hz1 hz2 HEQ
      go_wp2_with fail
      refine (HPH.out wr (HT.out.go HB.out)).mono ?_
      rintro e w2 ⟨rfl, hb2⟩
      have HB2 : Hid (Below w.heap.size w w2) := HB.out.trans (hb2.mono HB.out.size)
      have HL2 := Lib.hid (HBL.out.go hb2)
      clear hb2 HPH HBL
      go_wp2_with fail
      (with_reducible refine (HW1.out w2 HL2.out).mono ?_)
      rintro e w3 ⟨rfl, hl3, hb3⟩
      have HB3 : Hid (Below w.heap.size w w3) := HB2.out.trans hb3
      have HL3 := Lib.hid hl3
      clear hb3 hl3 HW1 HL2
      go_wp2_with fail
      (with_reducible refine (HW2.out w3 HL3.out).mono ?_)
      rintro e w4 ⟨rfl, hl4, hb4⟩
      have HB4 : Hid (Below w.heap.size w w4) := HB3.out.trans hb4
      have HL4 := Lib.hid hl4
      clear hb4 hl4 HW2 HL3
      go_wp2_with fail
      (with_reducible refine (HW3.out w4 HL4.out).mono ?_)
      rintro e w5 ⟨rfl, hl5, hb5⟩
      have HB5 : Hid (Below w.heap.size w w5) := HB4.out.trans hb5
      have HL5 := Lib.hid hl5
      clear hb5 hl5 HW3 HL4
      go_wp2
      go_roundw
      case rel => exact ⟨r.extract m r.size, _, rfl, by omega, HRL, HL5, HB5⟩
      case measure => exact hrm
    · obtain rfl := emp0 h0
      have hx0 : Nu.hexL 0 = [48] := by decide
      have HPH : Hid (∀ W, Nu.Tabs W → Calls Tryd.prog 12 #[.int .i64 0] W fun e w' => e = .returned (.string (Nu.mkS [48])) ∧ Below W.heap.size W w') := fun W h => by
        have := Nu.puthex_pos 0 W (by omega) h
        rw [hx0] at this
        exact this
      have HE0 : Hid (acc ++ [48, 13, 10, 13, 10] = encC N s.data.toList) := by
        have := HEQ.out
        rw [show (ByteArray.mk #[]).data.toList = ([] : List UInt8) from rfl, encC_nil] at this
        exact this
      have hcz : (ByteArray.mk #[13, 10]).size = 2 := rfl
      have hoz : (Nu.mkS [48]).size = 1 := rfl
      have hod : (Nu.mkS [48] ++ ⟨#[13, 10]⟩ ++ ⟨#[13, 10]⟩ : ByteArray).data.toList = [48, 13, 10, 13, 10] := by simp [Nu.mkS]
      have HOD := Lib.hid hod
      clear hod hx0 h0 HEQ
      generalize Nu.mkS [48] = hx at HPH hoz HOD
      have HW1 := Lib.hid (fun W h => Jt.wstr_c w.heap.size acc (hx ++ ⟨#[13, 10]⟩ ++ ⟨#[13, 10]⟩) W h (by rw [ByteArray.size_append, ByteArray.size_append, hcz, hoz]; omega))
      go_wp2_with fail
      refine (HPH.out wr (HT.out.go HB.out)).mono ?_
      rintro e w2 ⟨rfl, hb2⟩
      have HB2 : Hid (Below w.heap.size w w2) := HB.out.trans (hb2.mono HB.out.size)
      have HL2 := Lib.hid (HBL.out.go hb2)
      clear hb2 HPH HBL
      go_wp2_with fail
      (with_reducible refine (HW1.out w2 HL2.out).mono ?_)
      rintro e w3 ⟨rfl, hl3, hb3⟩
      rw [HOD.out, HE0.out] at hl3
      have HB3 : Hid (Below w.heap.size w w3) := HB2.out.trans hb3
      have HL3 := Lib.hid hl3
      clear hb3 hl3 HW1 HL2
      go_wp2_with fail
      (with_reducible refine (Jt.str_c w.heap.size (encC N s.data.toList) w3 HL3.out).mono ?_)
      rintro e w4 ⟨rfl, hb4⟩
      have HB4 : Hid (Below w.heap.size w w4) := HB3.out.trans hb4
      clear hb4 HL3
      go_wp2
      go_ret
      exact ⟨rfl, HB4.out⟩
end Go.Proofs.YteegbcjpganobaaDoor.Hd
