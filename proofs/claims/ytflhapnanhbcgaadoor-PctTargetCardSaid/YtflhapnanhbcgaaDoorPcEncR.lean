/- The contract of the document's own Encode: for every text of at most five hundred bytes. -/
import Derived.Test.YtflhapnanhbcgaaDoorPcEnc
namespace Go.Proofs.YtflhapnanhbcgaaDoor.Pc
open Go.RowKit Jt
set_option linter.unusedSimpArgs false
set_option linter.unusedVariables false

theorem ext_one {s : ByteArray} {k : Nat} (hk : k < s.size) : s.extract k (k + 1) = mkS [s[k]] := mkS_of (by
  rw [Lib.extract_data, List.drop_eq_getElem_cons (by rw [← Lib.size_eq]; exact hk), Nu.gdat s k hk, show k + 1 - k = 1 by omega]; rfl)
theorem hexU_ext (i : Nat) (hi : i < 16) : (mkS hexU).extract i (i + 1) = mkS [hxU i] := mkS_of (by
  rw [Lib.extract_data, data_mkS, List.drop_eq_getElem_cons (show i < hexU.length from hi), show i + 1 - i = 1 by omega]
  unfold hxU
  rw [List.getD, List.getElem?_eq_getElem (show i < hexU.length from hi)]; rfl)
theorem bdrew {B : Nat} {a w : World} (h : Below B a w) (n : Nat) : Below B a (w.drewN n) := ⟨h.os, h.tape, h.output, h.size, h.block⟩
theorem mkS_app (a b : List UInt8) : mkS a ++ mkS b = mkS (a ++ b) := mkS_of (by rw [Nu.app_data, data_mkS, data_mkS])
theorem pln_cases (c : UInt8) : (plnB c = true → (Ch.letB (c.toNat : Int) = true ∨ (Ch.letB (c.toNat : Int) = false ∧ Ch.digB (c.toNat : Int) = true) ∨ (Ch.letB (c.toNat : Int) = false ∧ Ch.digB (c.toNat : Int) = false ∧ ((c.toNat : Int) = 45 ∨ (c.toNat : Int) = 46 ∨ (c.toNat : Int) = 95 ∨ (c.toNat : Int) = 126)))) ∧
    (plnB c = false → Ch.letB (c.toNat : Int) = false ∧ Ch.digB (c.toNat : Int) = false ∧ ((c.toNat : Int) == 45) = false ∧ ((c.toNat : Int) == 46) = false ∧ ((c.toNat : Int) == 95) = false ∧ ((c.toNat : Int) == 126) = false) := by
  unfold plnB
  have e1 := byte_is c 45 (by omega); have e2 := byte_is c 46 (by omega); have e3 := byte_is c 95 (by omega); have e4 := byte_is c 126 (by omega)
  have f1 : c = 45 ↔ (c.toNat : Int) = 45 := e1.symm
  have f2 : c = 46 ↔ (c.toNat : Int) = 46 := e2.symm
  have f3 : c = 95 ↔ (c.toNat : Int) = 95 := e3.symm
  have f4 : c = 126 ↔ (c.toNat : Int) = 126 := e4.symm
  simp only [f1, f2, f3, f4]
  clear e1 e2 e3 e4 f1 f2 f3 f4
  generalize (c.toNat : Int) = z
  cases Ch.letB z <;> cases Ch.digB z <;> simp
set_option maxRecDepth 100000 in
set_option maxHeartbeats 8000000 in
theorem EncodeR_c (s : ByteArray) (w : World) (hs : s.size ≤ 20000) :
    Calls Tryd.prog 15 #[.string s] w fun e w' => e = .returned (.string (mkS (encL s.data.toList))) ∧ Below w.heap.size w w' := by
  have hsl := Lib.hid (size_l s)
  go_enter Tryd.func15, Tryd.ntmps15
  go_wp2
  go_loopw [3, 4] (fun o v wr => ∃ (k : Nat) (t : ByteArray), k ≤ s.size ∧ v = .int .i64 (k : Int) ∧ o = .string t ∧ t = mkS (encL (s.data.toList.take k)) ∧ Below w.heap.size w wr) (fun _ v _ => s.size - (intOf v).toNat)
  case atStart => exact ⟨0, _, by omega, rfl, rfl, rfl, Below.refl _ _⟩
  case round =>
    obtain ⟨k, t, hk, rfl, rfl, htt, hB⟩ := hrel
    have HB := Lib.hid hB
    have HTT := Lib.hid htt
    have hts : t.size ≤ 60000 := by
      rw [htt, size_mkS]; have := enc_len (s.data.toList.take k); have := List.length_take_le k s.data.toList; omega
    clear hB htt
    by_cases hlt : k < s.size
    · have hl : k < s.data.toList.length := by rw [← hsl.out]; exact hlt
      have hda : s.data.toList[k] = s[k] := data_at hlt hl
      have hen := enc_snoc hl
      rw [hda] at hen
      have c0 : 0 ≤ ((s[k].toNat : Nat) : Int) := by omega
      have c9 : ((s[k].toNat : Nat) : Int) ≤ 255 := by have := s[k].toNat_lt; omega
      have HL := Lib.hid (fun W => Ch.let_r (s[k].toNat : Int) W c0 c9)
      have HD := Lib.hid (fun W => Ch.dig_r (s[k].toNat : Int) W c0 c9)
      cases hp : plnB s[k] with
      | true =>
        have e1 : encB s[k] = [s[k]] := by unfold encB; rw [if_pos hp]
        have HEN : Hid (t ++ s.extract k (k + 1) = mkS (encL (s.data.toList.take (k + 1)))) := by
          show _ = _
          rw [hen, e1, HTT.out, ext_one hlt, mkS_app]
        clear hda hen e1
        rcases (pln_cases s[k]).1 hp with h | ⟨h, h2⟩ | ⟨h, h2, h3⟩
        · rw [h] at HL
          clear h hp
          go_wp2_with (first | (go_at_call 23; refine (HL.out _).mono ?_; rintro e w' ⟨rfl, rfl⟩) | (go_at_call 24; refine (HD.out _).mono ?_; rintro e w' ⟨rfl, rfl⟩))
          go_roundw
          case rel => exact ⟨k + 1, _, by omega, by go_num, rfl, HEN.out, HB.out⟩
          case measure => simp [intOf]; omega
        · rw [h] at HL
          rw [h2] at HD
          clear h h2 hp
          go_wp2_with (first | (go_at_call 23; refine (HL.out _).mono ?_; rintro e w' ⟨rfl, rfl⟩) | (go_at_call 24; refine (HD.out _).mono ?_; rintro e w' ⟨rfl, rfl⟩))
          go_roundw
          case rel => exact ⟨k + 1, _, by omega, by go_num, rfl, HEN.out, HB.out⟩
          case measure => simp [intOf]; omega
        · rw [h] at HL
          rw [h2] at HD
          clear h h2 hp
          rcases h3 with h3 | h3 | h3 | h3 <;>
          · rw [h3] at HL HD
            go_wp2_with (first | (go_at_call 23; refine (HL.out _).mono ?_; rintro e w' ⟨rfl, rfl⟩) | (go_at_call 24; refine (HD.out _).mono ?_; rintro e w' ⟨rfl, rfl⟩))
            go_roundw
            case rel => exact ⟨k + 1, _, by omega, by go_num, rfl, HEN.out, HB.out⟩
            case measure => simp [intOf]; omega
      | false =>
        have e1 : encB s[k] = [37, hxU (s[k].toNat / 16), hxU (s[k].toNat % 16)] := by unfold encB; rw [if_neg (by rw [hp]; decide)]
        have hd1 : s[k].toNat / 16 < 16 := by have := s[k].toNat_lt; omega
        have hd2 : s[k].toNat % 16 < 16 := by omega
        have HEN : Hid (t ++ mkS [37] ++ (mkS hexU).extract (s[k].toNat / 16) (s[k].toNat / 16 + 1) ++ (mkS hexU).extract (s[k].toNat % 16) (s[k].toNat % 16 + 1) = mkS (encL (s.data.toList.take (k + 1)))) := by
          show _ = _
          rw [hen, e1, HTT.out, hexU_ext _ hd1, hexU_ext _ hd2, mkS_app, mkS_app, mkS_app]; simp
        obtain ⟨h, h2, g1, g2, g3, g4⟩ := (pln_cases s[k]).2 hp
        rw [h] at HL
        rw [h2] at HD
        clear hda hen e1 h h2 hp
        go_wp2_with (first | (go_at_call 23; refine (HL.out _).mono ?_; rintro e w' ⟨rfl, rfl⟩) | (go_at_call 24; refine (HD.out _).mono ?_; rintro e w' ⟨rfl, rfl⟩))
        go_quiet (fail)
        go_wp2
        go_roundw
        case rel => exact ⟨k + 1, _, by omega, by go_num, rfl, HEN.out, bdrew HB.out _⟩
        case measure => simp [intOf]; omega
    · have htk : s.data.toList.take k = s.data.toList := List.take_of_length_le (by rw [← hsl.out]; omega)
      rw [htk] at HTT
      clear htk
      go_wp2
      go_ret
      exact ⟨congrArg (fun x => Ending.returned (.string x)) HTT.out, HB.out⟩
end Go.Proofs.YtflhapnanhbcgaaDoor.Pc
