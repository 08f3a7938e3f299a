/- The contract of package pct's Find: a row of at most twenty pairs of the call's own. -/
import Derived.Test.YtflhapnanhbcgaaDoorPcTgt
namespace Go.Proofs.YtflhapnanhbcgaaDoor.Pc
open Go.RowKit Jt
set_option linter.unusedSimpArgs false
set_option linter.unusedVariables false

theorem fnd_len (l : List PairL) (n : List UInt8) : (fndL l n).length ≤ l.length := by
  unfold fndL; rw [List.length_map]; exact List.length_filter_le _ _
theorem fnd_yes {l : List PairL} {n : List UInt8} {k : Nat} (hk : k < l.length) (h : l[k].1 = n) : fndL (l.take (k + 1)) n = fndL (l.take k) n ++ [l[k].2] := by
  rw [List.take_succ_eq_append_getElem hk, fnd_snoc, if_pos h]
theorem fnd_no {l : List PairL} {n : List UInt8} {k : Nat} (hk : k < l.length) (h : ¬ l[k].1 = n) : fndL (l.take (k + 1)) n = fndL (l.take k) n := by
  rw [List.take_succ_eq_append_getElem hk, fnd_snoc, if_neg h, List.append_nil]
theorem mkS_iff (a : List UInt8) (s : ByteArray) : mkS a = s ↔ a = s.data.toList := by
  constructor
  · rintro rfl; rw [data_mkS]
  · rintro rfl; exact mkS_of rfl
theorem stV_snoc (a : List (List UInt8)) (x : List UInt8) : stV (a ++ [x]) = stV a ++ [.string (mkS x)] := by unfold stV; simp
set_option maxRecDepth 100000 in
set_option maxHeartbeats 4000000 in
theorem Find_c (va : Value) (l : List PairL) (nm : ByteArray) (B : Nat) (w : World) (h : OwP 28 B va l w) (hn : l.length ≤ 20) :
    Calls Tryd.prog 9 #[va, .string nm] w fun e w' => ∃ v, e = .returned v ∧ OwS w.heap.size v (fndL l nm.data.toList) w' ∧ Below w.heap.size w w' := by
  have HO := Lib.hid h
  obtain ⟨ao, cap, hv⟩ := own_lenT h
  subst hv
  clear h
  obtain ⟨i0, hi, hz0, hz1, hz2⟩ := info_parts info9'
  have hs := stood
  go_enter Tryd.func9, Tryd.ntmps9
  go_wp2
  go_loopw [5, 10] (fun u v wr => ∃ k : Nat, k ≤ l.length ∧ v = .int .i64 k ∧ OwS w.heap.size u (fndL (l.take k) nm.data.toList) wr ∧ Below w.heap.size w wr) (fun _ v _ => l.length - (intOf v).toNat)
  case atStart => exact ⟨0, by omega, rfl, World.ownsRow_nil _ _ _ _, Below.refl _ _⟩
  case round =>
    obtain ⟨k, hk, rfl, hown, hB⟩ := hrel
    have HOA := Lib.hid hown
    have HB := Lib.hid hB
    obtain ⟨ao2, cap2, hu⟩ := own_lenT hown
    subst hu
    have hfl := fnd_len (l.take k) nm.data.toList
    have htl : (l.take k).length ≤ l.length := List.length_take_le' _ _
    by_cases hlt : k < l.length
    · obtain ⟨g1, c1, e1, hg1, hc1, hat1⟩ := owp_atT HO.out (by omega)
      injection e1 with e1a e1b e1c
      subst e1a e1c
      have p0 := (hB.cell (p := ⟨g1, k * 2, none⟩) hg1).trans (hat1 k hlt).1
      have p1 := (hB.cell (p := ⟨g1, k * 2 + 1, none⟩) hg1).trans (hat1 k hlt).2
      have hk0 : (0 : Int) ≤ (k : Int) := by omega
      have hkl : (k : Int) < (l.length : Int) := by omega
      have hwz := hB.size
      by_cases hnm : l[k].1 = nm.data.toList
      · have hsn := fnd_yes hlt hnm
        have he : mkS l[k].1 = nm := (mkS_iff _ _).2 hnm
        rw [he] at p0
        clear hB hat1 hnm he hown
        revert HOA p1 hsn hfl
        generalize fndL (l.take k) nm.data.toList = acc
        generalize l[k].2 = yl
        intro HOA hfl p1 hsn
        have HSN := Lib.hid hsn
        clear hsn
        have HBW : Hid (Below wr.heap.size wr ((wr.alloc (.cells #[.string nm, .string (mkS yl)] 28)).alloc (.cells #[.string (mkS yl)] 9))) := ((Below.refl _ _).alloc (Nat.le_refl _) _).alloc (by simp) _
        have HOW := Lib.hid (HOA.out.go HBW.out)
        go_wp2_with (at_builtin; refine wpList_append_own _ rfl _ _ 22 rfl w.heap.size 9 i0 (.string ByteArray.empty) 1 16 Tryd.underlying22 hi hz0 hz1 hz2 rfl (by decide) _ _ _ rfl HOW.out ⟨wr.heap.size + 1, 0, none⟩ 1 1 [.string (mkS yl)] rfl rfl ?c1 ?c2 ?c3 ?c4 ?c5 ?_)
        case c2 => rfl
        case c3 => unfold maxLen; omega
        case c4 => omega
        case c5 => have := HBW.out.size; have := HB.out.size; omega
        intro v' w5 hown' hgrow _
        have HO5 : Hid (OwS w.heap.size v' (acc ++ [yl]) w5) := by
          show OwS w.heap.size v' (acc ++ [yl]) w5
          unfold OwS
          rw [stV_snoc, List.length_append]
          exact hown'
        have HB5 : Hid (Below w.heap.size w w5) := by
          have hb := HB.out.trans (HBW.out.mono HB.out.size)
          exact hb.grown hgrow hb.size (fun k hk => (HOW.out.lt k hk).1)
        clear hown' hgrow HOW HBW
        go_wp2
        go_roundw
        case rel => exact ⟨k + 1, by omega, by go_num, by rw [HSN.out]; exact HO5.out, HB5.out⟩
        case measure => simp [intOf]; omega
      · have hsn := fnd_no hlt hnm
        have he : ((mkS l[k].1).toList == nm.toList) = false := by rw [Lib.toList_data, Lib.toList_data, data_mkS]; exact beq_eq_false_iff_ne.2 hnm
        clear hB hat1 hnm hown
        revert HOA p0 p1 hsn hfl he
        generalize fndL (l.take k) nm.data.toList = acc
        generalize mkS l[k].1 = x
        generalize mkS l[k].2 = y
        intro HOA hfl p0 p1 hsn he
        have HSN := Lib.hid hsn
        clear hsn
        have HBA : Hid (Below w.heap.size w (wr.alloc (.cells #[.string x, .string y] 28))) := HB.out.alloc hwz _
        have HOW := Lib.hid (HOA.out.go ((Below.refl wr.heap.size wr).alloc (Nat.le_refl _) (.cells #[.string x, .string y] 28)))
        go_wp2
        go_roundw
        case rel => exact ⟨k + 1, by omega, by go_num, by rw [HSN.out]; exact HOW.out, HBA.out⟩
        case measure => simp [intOf]; omega
    · have hke : k = l.length := by omega
      subst hke
      have hta : fndL (l.take l.length) nm.data.toList = fndL l nm.data.toList := by rw [List.take_length]
      clear hown hB
      go_wp2
      go_ret
      exact ⟨_, rfl, hta ▸ HOA.out, HB.out⟩
end Go.Proofs.YtflhapnanhbcgaaDoor.Pc
