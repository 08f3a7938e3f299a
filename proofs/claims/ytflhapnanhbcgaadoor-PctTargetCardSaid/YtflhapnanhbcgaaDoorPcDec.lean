/- The contract of package pct's Decode: for every text of at most five hundred bytes. -/
import Derived.Test.YtflhapnanhbcgaaDoorPcSign
import Derived.Test.YtflhapnanhbcgaaDoorJtBldB
namespace Go.Proofs.YtflhapnanhbcgaaDoor.Pc
open Go.RowKit Jt
set_option linter.unusedSimpArgs false
set_option linter.unusedVariables false

def decV (plus : Bool) (l : List UInt8) : Ending := match decL plus l with | some d => .returned (.tuple #[.string (mkS d), .int .i64 0]) | none => .returned (.tuple #[.string ⟨#[]⟩, .int .i64 3])
theorem decV_no {plus : Bool} {l : List UInt8} (h : decL plus l = none) : decV plus l = .returned (.tuple #[.string ⟨#[]⟩, .int .i64 3]) := by unfold decV; rw [h]
theorem decV_some {plus : Bool} {l d : List UInt8} (h : decL plus l = some d) : decV plus l = .returned (.tuple #[.string (mkS d), .int .i64 0]) := by unfold decV; rw [h]
/-- what is kept behind k bytes -/
def DcE (plus : Bool) (l : List UInt8) (k : Nat) (acc : List UInt8) : Prop := k ≤ l.length ∧ acc.length ≤ k ∧ decL plus l = (decL plus (l.drop k)).map (acc ++ ·)
theorem dce_start (plus : Bool) (l : List UInt8) : DcE plus l 0 [] := ⟨by omega, by simp, by simp⟩
theorem dce_end {plus : Bool} {l acc : List UInt8} {k : Nat} (h : DcE plus l k acc) (hk : l.length ≤ k) : decL plus l = some acc := by
  rw [h.2.2, List.drop_eq_nil_of_le hk, dec_nil]; simp
theorem dce_one {plus : Bool} {l acc : List UInt8} {k : Nat} (h : DcE plus l k acc) (hk : k < l.length) (hc : l[k] ≠ 37) : DcE plus l (k + 1) (acc ++ [plB plus l[k]]) := by
  refine ⟨by omega, by rw [List.length_append]; have := h.2.1; simp; omega, ?_⟩
  rw [h.2.2, List.drop_eq_getElem_cons hk, dec_one plus _ hc]
  cases decL plus (l.drop (k + 1)) <;> simp
theorem dce_sgn {plus : Bool} {l acc : List UInt8} {k : Nat} {x : UInt8} (h : DcE plus l k acc) (hk : k < l.length) (hc : l[k] = 37) (hx : sgnL (l.drop k) = some x) : DcE plus l (k + 3) (acc ++ [x]) ∧ k + 3 ≤ l.length := by
  have h3 : 3 ≤ (l.drop k).length := by
    match hl : l.drop k with
    | [] => rw [hl] at hx; cases hx
    | [_] => rw [hl] at hx; cases hx
    | [_, _] => rw [hl] at hx; cases hx
    | _ :: _ :: _ :: _ => simp
  rw [List.length_drop] at h3
  refine ⟨⟨by omega, by rw [List.length_append]; have := h.2.1; simp; omega, ?_⟩, by omega⟩
  have e := List.drop_eq_getElem_cons hk
  rw [e] at hx
  rw [h.2.2, e, dec_sgn plus _ hc hx, List.drop_drop]
  cases decL plus (l.drop (k + 1 + 2)) <;> simp
theorem dce_bad {plus : Bool} {l acc : List UInt8} {k : Nat} (h : DcE plus l k acc) (hk : k < l.length) (hc : l[k] = 37) (hx : sgnL (l.drop k) = none) : decL plus l = none := by
  have e := List.drop_eq_getElem_cons hk
  rw [e] at hx
  rw [h.2.2, e, dec_bad plus _ hc hx]; rfl
theorem byte_is (c : UInt8) (n : Nat) (hn : n < 256) : ((c.toNat : Int) = (n : Int)) ↔ c = UInt8.ofNat n := by rw [← UInt8.toNat_inj, UInt8.toNat_ofNat']; omega

set_option maxRecDepth 100000 in
set_option maxHeartbeats 8000000 in
theorem Decode_c (s : ByteArray) (plus : Bool) (w : World) (hs : s.size ≤ 20000) :
    Calls Tryd.prog 19 #[.string s, .bool plus] w fun e w' => e = decV plus s.data.toList ∧ Below w.heap.size w w' := by
  have hsl := Lib.hid (size_l s)
  have HN := Lib.hid (Bld.new w)
  have HB0 := Lib.hid ((Below.refl w.heap.size w).alloc (Nat.le_refl _) (.cells #[.pointer none, .slice none 0 0] 41))
  have HS0 := Lib.hid (dce_start plus s.data.toList)
  go_enter Tryd.func19, Tryd.ntmps19
  go_wp2
  go_loopw [7] (fun v wr => ∃ (k : Nat) (acc : List UInt8), v = .int .i64 (k : Int) ∧ DcE plus s.data.toList k acc ∧ Bld w.heap.size acc wr ∧ Below w.heap.size w wr) (fun v _ => s.size - (intOf v).toNat)
  case atStart => exact ⟨0, [], rfl, HS0.out, HN.out, HB0.out⟩
  case round =>
    clear HN HB0 HS0
    obtain ⟨k, acc, rfl, hD, hbld, hB⟩ := hrel
    have hk : k ≤ s.size := by have := hD.1; rw [← hsl.out] at this; exact this
    have hac : acc.length ≤ k := hD.2.1
    have HD := Lib.hid hD
    have HBL := Lib.hid hbld
    have HB := Lib.hid hB
    clear hD hbld hB
    by_cases hlt : k < s.size
    · have hl : k < s.data.toList.length := by rw [← hsl.out]; exact hlt
      have hda : s.data.toList[k] = s[k] := data_at hlt hl
      have HWB := Lib.hid (fun (W : World) (c : UInt8) (z : Int) (hz : z = (c.toNat : Int)) (h : Bld w.heap.size acc W) => wbyte_c w.heap.size acc c z hz W h (by omega))
      by_cases h37 : s[k] = 37
      · have hz37 : ((s[k].toNat : Nat) : Int) = 37 := (byte_is _ 37 (by omega)).2 h37
        have HSG := Lib.hid (fun W => sign_c (s.extract k s.size) W (by rw [ByteArray.size_extract]; omega))
        have ee : (s.extract k s.size).data.toList = s.data.toList.drop k := by rw [Lib.extract_data, List.take_of_length_le (by rw [List.length_drop, ← hsl.out]; exact Nat.le_refl _)]
        rw [ee] at HSG
        cases hx : sgnL (s.data.toList.drop k) with
        | none =>
          simp only [sgnV, hx] at HSG
          have HV : Hid (decV plus s.data.toList = _) := decV_no (dce_bad HD.out hl (by rw [hda]; exact h37) hx)
          clear hda h37 ee hx HWB
          go_wp2_with (go_at_call 28; refine (HSG.out _).mono ?_; rintro e w' ⟨rfl, rfl⟩)
          go_ret2
          exact ⟨HV.out.symm, HB.out⟩
        | some x =>
          simp only [sgnV, hx] at HSG
          obtain ⟨hD3, hk3⟩ := dce_sgn HD.out hl (by rw [hda]; exact h37) hx
          have HD3 := Lib.hid hD3
          rw [← hsl.out] at hk3
          clear hda h37 ee hx hD3
          go_wp2_with (first | (go_at_call 28; refine (HSG.out _).mono ?_; rintro e w' ⟨rfl, rfl⟩) | (go_at_call 11; refine (HWB.out _ x _ rfl HBL.out).mono ?_; rintro e w3 ⟨rfl, hbl3, hb3⟩; have HBL3 := Lib.hid hbl3; have HB3 := Lib.hid hb3; clear hbl3 hb3))
          go_roundw
          case rel => exact ⟨k + 3, _, by go_num, HD3.out, HBL3.out, HB.out.trans HB3.out⟩
          case measure => simp [intOf]; omega
      · have hz37 : ¬ ((s[k].toNat : Nat) : Int) = 37 := fun h => h37 ((byte_is _ 37 (by omega)).1 h)
        have hq37 : (((s[k].toNat : Nat) : Int) == 37) = false := by simpa using hz37
        have hD1 := dce_one HD.out hl (by rw [hda]; exact h37)
        rw [hda] at hD1
        have HD1 := Lib.hid hD1
        have HZ : Hid (∀ h : k < s.size, s[k].toNat = s[k].toNat) := fun _ => rfl
        by_cases h43 : s[k] = 43 ∧ plus = true
        · have e1 : plB plus s[k] = 32 := by unfold plB; rw [if_pos h43]
          rw [e1] at HD1
          have hz43 : ((s[k].toNat : Nat) : Int) = 43 := (byte_is _ 43 (by omega)).2 h43.1
          obtain ⟨h43', rfl⟩ := h43
          clear hda h37 hD1 h43' e1
          go_wp2_with (go_at_call 11; refine (HWB.out _ 32 _ rfl HBL.out).mono ?_; rintro e w3 ⟨rfl, hbl3, hb3⟩; have HBL3 := Lib.hid hbl3; have HB3 := Lib.hid hb3; clear hbl3 hb3)
          go_roundw
          case rel => exact ⟨k + 1, _, by go_num, HD1.out, HBL3.out, HB.out.trans HB3.out⟩
          case measure => simp [intOf]; omega
        · have e1 : plB plus s[k] = s[k] := by unfold plB; rw [if_neg h43]
          rw [e1] at HD1
          have hq43 : ((((s[k].toNat : Nat) : Int) == 43) && plus) = false := by
            cases plus with
            | false => simp
            | true => simp only [Bool.and_true]; simp only [and_true] at h43; simpa using fun h => h43 ((byte_is _ 43 (by omega)).1 h)
          clear hda h37 hD1 h43 e1
          by_cases hz43 : ((s[k].toNat : Nat) : Int) = 43
          · have hpf : plus = false := by
              cases plus with
              | false => rfl
              | true => rw [hz43] at hq43; cases hq43
            subst hpf
            clear hq43
            go_wp2_with (go_at_call 11; refine (HWB.out _ s[k] _ (by omega) HBL.out).mono ?_; rintro e w3 ⟨rfl, hbl3, hb3⟩; have HBL3 := Lib.hid hbl3; have HB3 := Lib.hid hb3; clear hbl3 hb3)
            go_roundw
            case rel => exact ⟨k + 1, _, by go_num, HD1.out, HBL3.out, HB.out.trans HB3.out⟩
            case measure => simp [intOf]; omega
          · have hqq : (((s[k].toNat : Nat) : Int) == 43) = false := by simpa using hz43
            clear hq43
            go_wp2_with (go_at_call 11; refine (HWB.out _ s[k] _ rfl HBL.out).mono ?_; rintro e w3 ⟨rfl, hbl3, hb3⟩; have HBL3 := Lib.hid hbl3; have HB3 := Lib.hid hb3; clear hbl3 hb3)
            go_roundw
            case rel => exact ⟨k + 1, _, by go_num, HD1.out, HBL3.out, HB.out.trans HB3.out⟩
            case measure => simp [intOf]; omega
    · have HV : Hid (decV plus s.data.toList = _) := decV_some (dce_end HD.out (by rw [← hsl.out]; omega))
      have HST := Lib.hid (str_c w.heap.size acc wr HBL.out)
      go_wp2_with (go_at_call 14; refine HST.out.mono ?_; rintro e w4 ⟨rfl, hb4⟩; have HB4 := Lib.hid hb4; clear hb4)
      go_ret2
      exact ⟨HV.out.symm, HB.out.trans HB4.out⟩
end Go.Proofs.YtflhapnanhbcgaaDoor.Pc
