/- The contract of the document's own Query: for every text of at most five hundred bytes. -/
import Derived.Test.YtedflihgdnfgnaaDoorPcRefQ
namespace Go.Proofs.YtedflihgdnfgnaaDoor.Pc
open Go.RowKit Jt
set_option linter.unusedSimpArgs false
set_option linter.unusedVariables false

set_option maxRecDepth 100000 in
set_option maxHeartbeats 8000000 in
theorem QueryR_c (s : ByteArray) (w : World) (hs : s.size ≤ 500) : Calls Tryd.prog 17 #[.string s] w (QyV (qryL s.data.toList) w) := by
  have HC := Lib.hid (Ch.cut_r s 38 w (by omega) (by omega) (by omega))
  rw [show (38 : Int).toNat.toUInt8 = 38 from rfl] at HC
  obtain ⟨i0, hi, hz0, hz1, hz2⟩ := info_parts infoR
  have hpl : ∀ p ∈ Ch.cutL 38 s.data.toList, p.length ≤ 500 := fun p hp => by have := Ch.cutL_part 38 s.data.toList p hp; rw [← size_l] at this; omega
  have hcl : (Ch.cutL 38 s.data.toList).length ≤ 501 := by have := Ch.cutL_len 38 s.data.toList; rw [← size_l] at this; omega
  have hcp := cutL_pos 38 s.data.toList
  unfold qryL
  revert HC hpl hcl hcp
  generalize Ch.cutL 38 s.data.toList = ps
  intro HC hpl hcl hcp
  have HPL := Lib.hid hpl
  clear hpl
  have HS0 := Lib.hid (qye_start ps)
  go_enter Tryd.func17, Tryd.ntmps17
  go_wp2_with fail
  refine HC.out.mono ?_
  rintro e wa ⟨vp, rfl, hO, hb⟩
  clear HC
  obtain ⟨g, cap0, rfl⟩ := own_form hO hcp
  have hgl : g < wa.heap.size := ((hO.lt g rfl).2)
  have HCL : Hid (∀ k (hk : k < ps.length), wa.cell? ⟨g, k, none⟩ = some (.string (mkS ps[k]))) := fun k hk => Ch.cell_of_owned hO k hk
  have HBA := Lib.hid hb
  have hsw : w.heap.size ≤ wa.heap.size := hb.size
  clear hO hb
  go_wp2
  go_loopw [4, 16] (fun vl v wr => ∃ (k : Nat) (acc : List PairL), v = .int .i64 (k : Int) ∧ QyE ps k acc ∧ OwP 44 wa.heap.size vl acc wr ∧ Below wa.heap.size wa wr) (fun _ v _ => ps.length - (intOf v).toNat)
  case atStart => exact ⟨0, [], rfl, HS0.out, World.ownsRow_nil _ _ _ _, Below.refl _ _⟩
  case round =>
    clear HS0
    obtain ⟨k, acc, rfl, hQ, hown, hB⟩ := hrel
    have hk : k ≤ ps.length := hQ.1
    have hac : acc.length ≤ k := hQ.2.1
    have HQ := Lib.hid hQ
    have HO := Lib.hid hown
    have HB := Lib.hid hB
    have HWR : Hid (Below w.heap.size w wr) := HBA.out.trans (hB.mono hsw)
    obtain ⟨ao, n1, cap, rfl⟩ := own_sl hown
    clear hQ hown
    by_cases hlt : k < ps.length
    · have hcell : wr.cell? ⟨g, k, none⟩ = some (.string (mkS ps[k])) := (hB.cell (p := ⟨g, k, none⟩) hgl).trans (HCL.out k hlt)
      clear hB
      have hpk := HPL.out _ (List.getElem_mem hlt)
      have HCU := Lib.hid (fun W => cutR_c (mkS ps[k]) 61 61 rfl W (by rw [size_mkS]; omega))
      rw [data_mkS] at HCU
      have hpl2 := cutP_len 61 ps[k]
      by_cases he : ps[k] = []
      · have HQ1 := Lib.hid (qye_skip HQ.out hlt he)
        have hem : (mkS ps[k]).toList.isEmpty = true := by rw [he, Lib.toList_data]; rfl
        clear he HCU hpk hpl2
        revert hcell hem
        generalize mkS ps[k] = t
        intro hcell hem
        go_wp2
        go_roundw
        case rel => exact ⟨k + 1, acc, by go_num, HQ1.out, HO.out, HB.out⟩
        case measure => simp [intOf]; omega
      · have hem : (mkS ps[k]).toList.isEmpty = false := by
          rw [Lib.toList_data, data_mkS]
          cases h : ps[k] with
          | nil => exact absurd h he
          | cons => rfl
        have HD1 := Lib.hid (fun W => DecodeR_c (mkS (cutP 61 ps[k]).1) true W (by rw [size_mkS]; omega))
        have HD2 := Lib.hid (fun W => DecodeR_c (mkS (cutP 61 ps[k]).2) true W (by rw [size_mkS]; omega))
        rw [data_mkS] at HD1 HD2
        have hpp := pair_parts (p := ps[k])
        have HQB := Lib.hid (fun h => qye_bad HQ.out hlt he h)
        have HQS := Lib.hid (fun x h => qye_step (x := x) HQ.out hlt he h)
        unfold decW at HD1 HD2
        clear he hpk hpl2
        revert HCU HD1 HD2 hpp
        generalize decL true (cutP 61 ps[k]).1 = da
        generalize decL true (cutP 61 ps[k]).2 = db
        generalize mkS (cutP 61 ps[k]).1 = sa
        generalize mkS (cutP 61 ps[k]).2 = sb
        intro HCU HD1 HD2 hpp
        have HPP := Lib.hid hpp
        clear hpp
        revert hcell hem HCU
        generalize mkS ps[k] = t
        intro hcell hem HCU
        go_wp2_with fail
        refine (HCU.out _).mono ?_
        rintro e w' ⟨rfl, n, hw⟩
        rw [hw]
        clear hw
        have HBn := Lib.hid (bdrw HB.out n)
        have HOn : Hid (OwP 44 wa.heap.size _ acc (wr.drewN n)) := HO.out
        revert HBn HOn
        generalize wr.drewN n = wn
        intro HBn HOn
        rcases HPP.out with ⟨x, y, rfl, rfl, hp⟩ | ⟨rfl, hp⟩ | ⟨x, rfl, rfl, hp⟩
        · have HQ1 := Lib.hid (HQS.out _ hp)
          simp only at HD1 HD2
          clear hp
          go_wp2_with fail
          refine (HD1.out _).mono ?_
          rintro e w2 ⟨rfl, hb2⟩
          have HB2 : Hid (Below wa.heap.size wa w2) := HBn.out.trans (hb2.mono HBn.out.size)
          have HO2 := Lib.hid (HOn.out.go hb2)
          clear hb2
          go_wp2_with fail
          refine (HD2.out _).mono ?_
          rintro e w3 ⟨rfl, hb3⟩
          have HB3 : Hid (Below wa.heap.size wa w3) := HB2.out.trans (hb3.mono HB2.out.size)
          have HO3 := Lib.hid (HO2.out.go hb3)
          clear hb3
          have HD : Hid (∃ W2, W2 = w3.alloc (.cells #[.string (mkS x), .string (mkS y)] 44) ∧ W2.heap[w3.heap.size]? = some (.cells #[.string (mkS x), .string (mkS y)] 44 (0, 0)) ∧ Below w3.heap.size w3 W2) := ⟨_, rfl, heap_alloc_new w3 _, (Below.refl _ _).alloc (Nat.le_refl _) _⟩
          obtain ⟨W2, hW2, hk3, hbW⟩ := HD.out
          have HK3 := Lib.hid hk3
          have HBW := Lib.hid hbW
          have HOW := Lib.hid (HO3.out.go hbW)
          have HW2 := Lib.hid hW2
          clear HD hk3 hbW hW2
          go_wp2_with (at_builtin; rw [← HW2.out]; refine wpList_append_own _ rfl _ _ 34 rfl wa.heap.size 44 i0 _ 2 32 Tryd.underlying34 hi hz0 hz1 hz2 rfl (by decide) _ _ _ rfl HOW.out ⟨w3.heap.size, 0, none⟩ 1 1 [.string (mkS x), .string (mkS y)] rfl rfl ?c1 ?c2 ?c3 ?c4 ?c5 ?_)
          case c1 =>
            intro j u hj
            have hj5 : j < 2 := by
              rcases Nat.lt_or_ge j 2 with h | h
              · exact h
              · rw [List.getElem?_eq_none (by show 2 ≤ j; exact h)] at hj; cases hj
            have ea : (⟨w3.heap.size, 0, none⟩ : Addr).add j = ⟨w3.heap.size, j, none⟩ := by unfold Addr.add; split <;> simp_all
            rw [ea, cell_of_row _ _ j _ _ _ HK3.out]
            match j, hj5 with
            | 0, _ => exact hj
            | 1, _ => exact hj
          case c2 => intro u hu; simp at hu; rcases hu with rfl | rfl <;> rfl
          case c3 => unfold maxLen; omega
          case c4 => omega
          case c5 => have := HB3.out.size; have := HBW.out.size; omega
          intro v' w5 hown' hgrow _
          have HO5 : Hid (OwP 44 wa.heap.size v' (acc ++ [(x, y)]) w5) := by
            show OwP 44 wa.heap.size v' (acc ++ [(x, y)]) w5
            unfold OwP
            rw [prC_snoc, List.length_append]
            exact hown'
          have HB5 : Hid (Below wa.heap.size wa w5) := by
            have hb := HB3.out.trans (HBW.out.mono HB3.out.size)
            exact hb.grown hgrow hb.size (fun k hk => (HOW.out.lt k hk).1)
          clear hown' hgrow
          go_wp2
          go_roundw
          case rel => exact ⟨k + 1, acc ++ [(x, y)], by go_num, HQ1.out, HO5.out, HB5.out⟩
          case measure => simp [intOf]; omega
        · have HQ1 := Lib.hid (HQB.out hp)
          clear hp HOn
          simp only at HD1
          go_wp2_with fail
          refine (HD1.out _).mono ?_
          rintro e w2 ⟨rfl, hb2⟩
          have HB2 : Hid (Below wa.heap.size wa w2) := HBn.out.trans (hb2.mono HBn.out.size)
          clear hb2
          cases db with
          | none =>
            simp only at HD2
            go_wp2_with fail
            refine (HD2.out _).mono ?_
            rintro e w3 ⟨rfl, hb3⟩
            have HB3 : Hid (Below wa.heap.size wa w3) := HB2.out.trans (hb3.mono HB2.out.size)
            clear hb3
            go_wp2
            go_ret2
            exact qyv_no HQ1.out rfl (HBA.out.trans (HB3.out.mono hsw))
          | some y =>
            simp only at HD2
            go_wp2_with fail
            refine (HD2.out _).mono ?_
            rintro e w3 ⟨rfl, hb3⟩
            have HB3 : Hid (Below wa.heap.size wa w3) := HB2.out.trans (hb3.mono HB2.out.size)
            clear hb3
            go_wp2
            go_ret2
            exact qyv_no HQ1.out rfl (HBA.out.trans (HB3.out.mono hsw))
        · have HQ1 := Lib.hid (HQB.out hp)
          clear hp HOn
          simp only at HD1 HD2
          go_wp2_with fail
          refine (HD1.out _).mono ?_
          rintro e w2 ⟨rfl, hb2⟩
          have HB2 : Hid (Below wa.heap.size wa w2) := HBn.out.trans (hb2.mono HBn.out.size)
          clear hb2
          go_wp2_with fail
          refine (HD2.out _).mono ?_
          rintro e w3 ⟨rfl, hb3⟩
          have HB3 : Hid (Below wa.heap.size wa w3) := HB2.out.trans (hb3.mono HB2.out.size)
          clear hb3
          go_wp2
          go_ret2
          exact qyv_no HQ1.out rfl (HBA.out.trans (HB3.out.mono hsw))
    · have HQ1 := Lib.hid (qye_end HQ.out (by omega))
      clear hB
      go_wp2
      go_ret2
      exact qyv_some HQ1.out rfl (World.ownsRow.mono HO.out hsw) HWR.out
end Go.Proofs.YtedflihgdnfgnaaDoor.Pc
