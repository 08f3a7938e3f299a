/- The contract of the document's own Decode: for every text of at most five hundred bytes. -/
import Derived.Test.YtedflihgdnfgnaaDoorPcDec
namespace Go.Proofs.YtedflihgdnfgnaaDoor.Pc
open Go.RowKit Jt
set_option linter.unusedSimpArgs false
set_option linter.unusedVariables false

/-- a slice of bytes of the call's own -/
def OwB (B : Nat) (v : Value) (l : List UInt8) (w : World) : Prop := w.ownsRowF B 5 1 v l.length (Lib.byteCells l)
theorem conv_nil (w : World) : (convert 51 9 (.slice none 0 0)).run Tryd.prog w = .ok (.string (mkS [])) w := by kernel_rfl
theorem own_str {B : Nat} {v : Value} {l : List UInt8} {w : World} (h : OwB B v l w) : (convert 51 9 v).run Tryd.prog w = .ok (.string (mkS l)) w := by
  obtain ⟨_, h⟩ := h
  rcases h with ⟨rfl, h0⟩ | ⟨g, cap, cur, fz, rfl, hB, hg, hfz, hc, hcm, hsz, htk⟩
  · have : l = [] := List.length_eq_zero_iff.1 h0
    subst this
    exact conv_nil w
  · exact run_convert_bytes_back w 51 9 5 ⟨g, 0, none⟩ cap l Tryd.underlying51 Tryd.underlying5 Tryd.underlying9 (fun j hj => by
      have ea : (⟨g, 0, none⟩ : Addr).add j = ⟨g, j, none⟩ := by unfold Addr.add; split <;> simp_all
      rw [ea, cell_of_row w g j cur _ _ hg]
      have h1 : (cur.toList.take (l.length * 1))[j]? = (Lib.byteCells l)[j]? := by rw [htk]
      rw [List.getElem?_take_of_lt (by omega)] at h1
      rw [← Array.getElem?_toList, h1]
      unfold Lib.byteCells
      rw [List.getElem?_map, List.getElem?_eq_getElem hj]; rfl)
theorem OwB.go {B : Nat} {v : Value} {l : List UInt8} {w w' : World} (h : OwB B v l w) (hb : Below w.heap.size w w') : OwB B v l w' :=
  World.ownsRowF.kept h (row := none) ⟨hb.os, hb.tape, hb.output, hb.size, fun k hk _ => hb.block k hk⟩ (by cases hv : v.ownBlock <;> simp)
def decW (plus : Bool) (l : List UInt8) : Ending := match decL plus l with | some d => .returned (.tuple #[.string (mkS d), .bool true]) | none => .returned (.tuple #[.string ⟨#[]⟩, .bool false])
theorem decW_no {plus : Bool} {l : List UInt8} (h : decL plus l = none) : decW plus l = .returned (.tuple #[.string ⟨#[]⟩, .bool false]) := by unfold decW; rw [h]
theorem decW_some {plus : Bool} {l d : List UInt8} (h : decL plus l = some d) : decW plus l = .returned (.tuple #[.string (mkS d), .bool true]) := by unfold decW; rw [h]
theorem sgn_short {l : List UInt8} (h : l.length < 3) : sgnL l = none := by
  match l, h with
  | [], _ => rfl
  | [_], _ => rfl
  | [_, _], _ => rfl
theorem sgn_long {l : List UInt8} {c a b : UInt8} {r : List UInt8} (h : l = c :: a :: b :: r) : sgnL l = if okTwo a b = true then some (twoB a b) else none := by subst h; rfl
theorem infoB : (Tryd.prog.info? 5).map (fun i => (i.zero, i.size, i.bytes)) = some (some (.int .u8 0), 1, 1) := by kernel_rfl
set_option maxRecDepth 100000 in
set_option maxHeartbeats 8000000 in
theorem DecodeR_c (s : ByteArray) (plus : Bool) (w : World) (hs : s.size ≤ 500) :
    Calls Tryd.prog 9 #[.string s, .bool plus] w fun e w' => e = decW plus s.data.toList ∧ Below w.heap.size w w' := by
  have hsl := Lib.hid (size_l s)
  have HS0 := Lib.hid (dce_start plus s.data.toList)
  obtain ⟨i0, hi, hz0, hz1, hz2⟩ := info_parts infoB
  go_enter Tryd.func9, Tryd.ntmps9
  go_wp2
  go_loopw [6, 7] (fun o v wr => ∃ (k : Nat) (acc : List UInt8), v = .int .i64 (k : Int) ∧ DcE plus s.data.toList k acc ∧ OwB w.heap.size o acc wr ∧ Below w.heap.size w wr) (fun _ v _ => s.size - (intOf v).toNat)
  case atStart => exact ⟨0, [], rfl, HS0.out, ⟨rfl, .inl ⟨rfl, rfl⟩⟩, Below.refl _ _⟩
  case round =>
    clear HS0
    obtain ⟨k, acc, rfl, hD, hown, hB⟩ := hrel
    have hk : k ≤ s.size := by have := hD.1; rw [← hsl.out] at this; exact this
    have hac : acc.length ≤ k := hD.2.1
    have HD := Lib.hid hD
    have HO := Lib.hid hown
    have HB := Lib.hid hB
    clear hD hown hB
    by_cases hlt : k < s.size
    · have hl : k < s.data.toList.length := by rw [← hsl.out]; exact hlt
      have hda : s.data.toList[k] = s[k] := data_at hlt hl
      by_cases h37 : s[k] = 37
      · have hz37 : ((s[k].toNat : Nat) : Int) = 37 := (byte_is _ 37 (by omega)).2 h37
        by_cases h3 : s.size ≤ k + 2
        · have HV : Hid (decW plus s.data.toList = _) := decW_no (dce_bad HD.out hl (by rw [hda]; exact h37) (sgn_short (by rw [List.length_drop, ← hsl.out]; omega)))
          have h3' : ((s.size : Nat) : Int) ≤ (k : Int) + 2 := by omega
          clear hda h37
          go_wp2
          go_ret2
          exact ⟨HV.out.symm, HB.out⟩
        · obtain ⟨c, a, b, r, hlr, ht⟩ := three (l := s.data.toList.drop k) (by rw [List.length_drop, ← hsl.out]; omega)
          have h3' : ¬ ((s.size : Nat) : Int) ≤ (k : Int) + 2 := by omega
          have h3b : ((k : Nat) : Int) + 3 ≤ (s.size : Int) := by omega
          have HX := Lib.hid (fun W => Nu.hex_r (s.extract (k + 1) (k + 3)) W (by rw [ByteArray.size_extract]; omega))
          have e : (s.extract (k + 1) (k + 3)).data.toList = [a, b] := by
            rw [Lib.extract_data, show k + 3 - (k + 1) = 2 by omega, ← ht, List.drop_drop]
          rw [e, (rd_two a b).1, (rd_two a b).2] at HX
          have hsg := sgn_long hlr
          clear e hlr ht
          by_cases ho : okTwo a b = true
          · simp only [if_pos ho] at HX hsg
            obtain ⟨hD3, hk3⟩ := dce_sgn HD.out hl (by rw [hda]; exact h37) hsg
            have HD3 := Lib.hid hD3
            have x0 : 0 ≤ ((twoB a b).toNat : Int) := by omega
            have x1 : ((twoB a b).toNat : Int) ≤ 255 := by have := (twoB a b).toNat_lt; omega
            clear hda h37 hsg hD3 ho hk3
            revert HX HD3 x0 x1
            generalize twoB a b = x
            intro HX HD3 x0 x1
            go_wp2_with fail
            refine (HX.out _).mono ?_
            rintro e w2 ⟨rfl, hb2⟩
            have HB2 := Lib.hid hb2
            have HO2 := Lib.hid (HO.out.go hb2)
            clear hb2
            go_wp2_with (at_builtin; refine wpList_append_ownF _ rfl _ _ 51 rfl w.heap.size 5 i0 (.int .u8 0) 1 1 Tryd.underlying51 hi hz0 hz1 hz2 rfl (by decide) _ _ _ rfl (HO2.out.alloc _) ⟨w2.heap.size, 0, none⟩ 1 1 [.int .u8 (x.toNat : Int)] rfl rfl ?c1 ?c2 ?c3 ?c4 ?c5 ?_)
            case c1 =>
              intro j u hj
              match j, hj with
              | 0, hj => simp at hj; subst hj; simp [Addr.add]
            case c2 => intro u hu; simp at hu; subst hu; rfl
            case c3 => unfold maxLen; omega
            case c4 => omega
            case c5 => have := HB.out.size; have := HB2.out.size; simp; omega
            intro v' w3 hown' hgrow _
            have HO3 : Hid (OwB w.heap.size v' (acc ++ [x]) w3) := by
              show OwB w.heap.size v' (acc ++ [x]) w3
              unfold OwB
              rw [List.length_append, ← byteCells_app]
              exact hown'
            have HB3 : Hid (Below w.heap.size w w3) := by
              have hb := HB.out.trans (HB2.out.mono HB.out.size)
              exact (hb.alloc hb.size _).grown hgrow (by have := hb.size; simp; omega) (fun k hk => (HO2.out.lt k hk).1)
            clear hown' hgrow
            go_wp2
            go_roundw
            case rel => exact ⟨k + 3, acc ++ [x], by go_num, HD3.out, HO3.out, HB3.out⟩
            case measure => simp [intOf]; omega
          · simp only [if_neg ho] at HX hsg
            have HV : Hid (decW plus s.data.toList = _) := decW_no (dce_bad HD.out hl (by rw [hda]; exact h37) hsg)
            clear hda h37 hsg ho
            go_wp2_with (go_at_call 24; refine (HX.out _).mono ?_; rintro e w2 ⟨rfl, hb2⟩; have HB2 := Lib.hid hb2; clear hb2)
            go_ret2
            exact ⟨HV.out.symm, HB.out.trans (HB2.out.mono HB.out.size)⟩
      · have hz37 : ¬ ((s[k].toNat : Nat) : Int) = 37 := fun h => h37 ((byte_is _ 37 (by omega)).1 h)
        have hq37 : (((s[k].toNat : Nat) : Int) == 37) = false := by simpa using hz37
        have hD1 := dce_one HD.out hl (by rw [hda]; exact h37)
        rw [hda] at hD1
        have hcase : (plus = true ∧ ((s[k].toNat : Nat) : Int) = 43 ∧ plB plus s[k] = 32) ∨ (plus = true ∧ (((s[k].toNat : Nat) : Int) == 43) = false ∧ plB plus s[k] = s[k]) ∨ (plus = false ∧ plB plus s[k] = s[k]) := by
          unfold plB
          cases plus with
          | false => right; right; exact ⟨rfl, by rw [if_neg (by simp)]⟩
          | true =>
            by_cases h : s[k] = 43
            · left; exact ⟨rfl, (byte_is _ 43 (by omega)).2 h, by rw [if_pos ⟨h, rfl⟩]⟩
            · right; left; exact ⟨rfl, by simpa using fun g => h ((byte_is _ 43 (by omega)).1 g), by rw [if_neg (fun g => h g.1)]⟩
        clear hda h37
        rcases hcase with ⟨rfl, hc, he⟩ | ⟨rfl, hc, he⟩ | ⟨rfl, he⟩
        · rw [he] at hD1
          have HD1 := Lib.hid hD1
          clear hD1 he
          go_wp2_with (at_builtin; refine wpList_append_ownF _ rfl _ _ 51 rfl w.heap.size 5 i0 (.int .u8 0) 1 1 Tryd.underlying51 hi hz0 hz1 hz2 rfl (by decide) _ _ _ rfl (HO.out.alloc _) ⟨wr.heap.size, 0, none⟩ 1 1 [.int .u8 32] rfl rfl ?c1 ?c2 ?c3 ?c4 ?c5 ?_)
          case c1 =>
            intro j u hj
            match j, hj with
            | 0, hj => simp at hj; subst hj; simp [Addr.add]
          case c2 => intro u hu; simp at hu; subst hu; rfl
          case c3 => unfold maxLen; omega
          case c4 => omega
          case c5 => have := HB.out.size; simp; omega
          intro v' w3 hown' hgrow _
          have HO3 : Hid (OwB w.heap.size v' (acc ++ [32]) w3) := by
            show OwB w.heap.size v' (acc ++ [32]) w3
            unfold OwB
            rw [List.length_append, ← byteCells_app]
            exact hown'
          have HB3 : Hid (Below w.heap.size w w3) := (HB.out.alloc HB.out.size _).grown hgrow (by have := HB.out.size; simp; omega) (fun k hk => (HO.out.lt k hk).1)
          clear hown' hgrow
          go_wp2
          go_roundw
          case rel => exact ⟨k + 1, _, by go_num, HD1.out, HO3.out, HB3.out⟩
          case measure => simp [intOf]; omega
        all_goals
          rw [he] at hD1
          have HD1 := Lib.hid hD1
          clear hD1 he
          go_wp2_with (at_builtin; refine wpList_append_ownF _ rfl _ _ 51 rfl w.heap.size 5 i0 (.int .u8 0) 1 1 Tryd.underlying51 hi hz0 hz1 hz2 rfl (by decide) _ _ _ rfl (HO.out.alloc _) ⟨wr.heap.size, 0, none⟩ 1 1 [.int .u8 (s[k].toNat : Int)] rfl rfl ?c1 ?c2 ?c3 ?c4 ?c5 ?_)
          case c1 =>
            intro j u hj
            match j, hj with
            | 0, hj => simp at hj; subst hj; simp [Addr.add]
          case c2 => intro u hu; simp at hu; subst hu; rfl
          case c3 => unfold maxLen; omega
          case c4 => omega
          case c5 => have := HB.out.size; simp; omega
          intro v' w3 hown' hgrow _
          have HO3 : Hid (OwB w.heap.size v' (acc ++ [s[k]]) w3) := by
            show OwB w.heap.size v' (acc ++ [s[k]]) w3
            unfold OwB
            rw [List.length_append, ← byteCells_app]
            exact hown'
          have HB3 : Hid (Below w.heap.size w w3) := (HB.out.alloc HB.out.size _).grown hgrow (by have := HB.out.size; simp; omega) (fun k hk => (HO.out.lt k hk).1)
          clear hown' hgrow
          go_wp2
          go_roundw
          case rel => exact ⟨k + 1, _, by go_num, HD1.out, HO3.out, HB3.out⟩
          case measure => simp [intOf]; omega
    · have HV : Hid (decW plus s.data.toList = _) := decW_some (dce_end HD.out (by rw [← hsl.out]; omega))
      have hcv := own_str HO.out
      go_wp2
      go_ret2
      exact ⟨HV.out.symm, HB.out⟩
end Go.Proofs.YtedflihgdnfgnaaDoor.Pc
