/- The contract of walk of package utf: the same walk as the document's; for every text of at most a thousand bytes; where the tables lie as the program's text lays them. -/
import Derived.Test.YtkphainopofejaaDoorUtWalks
namespace Go.Proofs.YtkphainopofejaaDoor.Ut
open Go.RowKit
set_option linter.unusedSimpArgs false
set_option linter.unusedVariables false

set_option maxRecDepth 100000 in
set_option maxHeartbeats 8000000 in
theorem walk_c (s : ByteArray) (w : World) (hT : Tabs w) (hs : s.size ≤ 1000) : Calls Tryd.prog 71 #[.string s] w fun e w' => e = tup2 (walkL (nums s)).1 (walkL (nums s)).2 ∧ Below w.heap.size w w' := by
  have hl := Lib.hid (nums_len s)
  have HY := Lib.hid (nums_byt s)
  have HT := Lib.hid hT
  clear hT
  go_enter Tryd.func71, Tryd.ntmps71
  go_wp2
  go_loopw [2, 3] (fun vn vp wr => WRel (nums s) w vn vp wr) (fun _ i _ => s.size - (intOf i).toNat)
  case atStart => exact ⟨0, 0, (nums s).length, rfl, rfl, by omega, by omega, by omega, rfl, Below.refl _ _⟩
  case round =>
    obtain ⟨n, p, f, rfl, rfl, hp, hnp, hf, hw, hB⟩ := hrel
    have HW := Lib.hid hw
    have HB := Lib.hid hB
    rw [hl.out] at hp hf
    clear hw hB
    by_cases hlt : p < s.size
    · have hlt' : (p : Int) < (s.size : Int) := by omega
      rcases Nat.lt_trichotomy (p + 4) s.size with h4 | h4 | h4
      · have h4' : (p : Int) + 4 < (s.size : Int) := by omega
        obtain ⟨cap, W0, hrun, hc1, hc2, hSl, hbl⟩ := bytes_conv (s.extract p (p + 4)) wr
        have hsz : (s.extract p (p + 4)).size = 4 := by rw [ByteArray.size_extract]; omega
        have hne : nums (s.extract p (p + 4)) = ((nums s).drop p).take 4 := by
          rw [nums_ext]
          have hd : ((nums s).drop p).length = s.size - p := by rw [List.length_drop, hl.out]
          rcases Nat.lt_or_ge (s.size - p) 4 with h | h
          · rw [List.take_of_length_le (by omega), List.take_of_length_le (by omega)]
          · rw [show p + 4 - p = 4 by omega]
        rw [hsz] at hrun hc1 hc2
        rw [hne] at hSl
        have hy4 : Byt (((nums s).drop p).take 4) := fun z hz => HY.out z (List.mem_of_mem_drop (List.mem_of_mem_take hz))
        have HX := Lib.hid (fun (W : World) (hTW : Tabs W) (hS : Sl W (some ⟨wr.heap.size, 0, none⟩) (((nums s).drop p).take 4)) => next_c (some ⟨wr.heap.size, 0, none⟩) (4) cap (((nums s).drop p).take 4) W hTW hS hy4 (by rw [List.length_take, List.length_drop, hl.out]; omega) hc1 (hc2 (by omega)))
        have HX2 := Lib.hid (HX.out W0 ((HT.out.below HB.out HT.out.two).go hbl) hSl)
        have hkey := next_key (((nums s).drop p).take 4) hy4
        rw [nextW_take] at hkey
        have hk := nextW_k ((nums s).drop p)
        have HST := Lib.hid (@walkP_stop (nums s) f n p)
        have HGO := Lib.hid (@walkP_go (nums s) f n p (by rw [hl.out]; exact hlt))
        have HBL := Lib.hid hbl
        have hzne : ((nums s).drop p).take 4 ≠ [] := fun e => by have := congrArg List.length e; rw [List.length_take, List.length_drop, hl.out, List.length_nil] at this; omega
        clear hsz hne hSl hbl hc1 hc2 HX hy4
        revert HX2 hkey hk HST HGO hzne
        generalize nextW ((nums s).drop p) = q
        generalize ((nums s).drop p).take 4 = z4
        intro HX2 hkey hk HST HGO hzne
        obtain ⟨v, k⟩ := q
        simp only [Prod.mk.injEq] at hkey
        simp only at hk HST HGO
        rw [List.length_drop, hl.out] at hk
        rcases hkey with ⟨hz, _⟩ | ⟨_, hE, hv, hk2⟩ | ⟨_, hE, hv, hk2⟩ | ⟨_, v', k', hE, ⟨hv, hk2⟩, hk1, _, _⟩
        · exact absurd hz hzne
        · have HK : Hid (k ≤ 0) := by show k ≤ 0; omega
          rw [hE] at HX2
          simp only [tup3] at HX2
          clear hE hv hk2 hk hzne HGO
          go_wp2_with (go_at_call 79; refine HX2.out.mono ?_; rintro e w2 ⟨rfl, hb2⟩; have HB2 := Lib.hid hb2; clear hb2)
          go_ret2
          have hfin := HW.out
          rw [HST.out (fun h => by have := HK.out; omega)] at hfin
          have B1 := HB.out.trans (HBL.out.mono HB.out.size)
          refine ⟨?_, B1.trans (HB2.out.mono B1.size)⟩
          rw [← hfin]
          rfl
        · have HK : Hid (k ≤ 0) := by show k ≤ 0; omega
          rw [hE] at HX2
          simp only [tup3] at HX2
          clear hE hv hk2 hk hzne HGO
          go_wp2_with (go_at_call 79; refine HX2.out.mono ?_; rintro e w2 ⟨rfl, hb2⟩; have HB2 := Lib.hid hb2; clear hb2)
          go_ret2
          have hfin := HW.out
          rw [HST.out (fun h => by have := HK.out; omega)] at hfin
          have B1 := HB.out.trans (HBL.out.mono HB.out.size)
          refine ⟨?_, B1.trans (HB2.out.mono B1.size)⟩
          rw [← hfin]
          rfl
        · obtain ⟨d, rfl⟩ : ∃ d : Nat, k' = (d : Int) := ⟨k'.toNat, by omega⟩
          subst hk2
          rw [hE] at HX2
          simp only [tup3] at HX2
          obtain ⟨f', hg1, hg2, hg3⟩ := HGO.out (by omega) (by rw [hl.out]; exact hf)
          have HG1 := Lib.hid hg1
          have HG2 := Lib.hid hg2
          have HG3 := Lib.hid hg3
          clear hE hv hzne HGO hg1 hg2 hg3
          go_wp2_with (go_at_call 79; refine HX2.out.mono ?_; rintro e w2 ⟨rfl, hb2⟩; have HB2 := Lib.hid hb2; clear hb2)
          go_roundw
          case rel =>
            have e : ((d : Int)).toNat = d := by omega
            have g1 := HG1.out
            have g2 := HG2.out
            have g3 := HG3.out
            rw [e] at g1 g2 g3
            have B1 := HB.out.trans (HBL.out.mono HB.out.size)
            exact ⟨n + 1, p + d, f', by go_num, by go_num, g3, by omega, g2, by rw [← g1]; exact HW.out, B1.trans (HB2.out.mono B1.size)⟩
          case measure => simp [intOf]; omega
      · have h4' : (p : Int) + 4 ≤ (s.size : Int) := by omega
        have h4'' : (s.size : Int) ≤ (p : Int) + 4 := by omega
        have H4 := Lib.hid h4
        obtain ⟨cap, W0, hrun, hc1, hc2, hSl, hbl⟩ := bytes_conv (s.extract p (s.size)) wr
        have hsz : (s.extract p (s.size)).size = s.size - p := by rw [ByteArray.size_extract]; omega
        have hne : nums (s.extract p (s.size)) = ((nums s).drop p).take 4 := by
          rw [nums_ext]
          have hd : ((nums s).drop p).length = s.size - p := by rw [List.length_drop, hl.out]
          rcases Nat.lt_or_ge (s.size - p) 4 with h | h
          · rw [List.take_of_length_le (by omega), List.take_of_length_le (by omega)]
          · rw [show s.size - p = 4 by omega]
        rw [hsz] at hrun hc1 hc2
        rw [hne] at hSl
        have hy4 : Byt (((nums s).drop p).take 4) := fun z hz => HY.out z (List.mem_of_mem_drop (List.mem_of_mem_take hz))
        have HX := Lib.hid (fun (W : World) (hTW : Tabs W) (hS : Sl W (some ⟨wr.heap.size, 0, none⟩) (((nums s).drop p).take 4)) => next_c (some ⟨wr.heap.size, 0, none⟩) (s.size - p) cap (((nums s).drop p).take 4) W hTW hS hy4 (by rw [List.length_take, List.length_drop, hl.out]; omega) hc1 (hc2 (by omega)))
        have HX2 := Lib.hid (HX.out W0 ((HT.out.below HB.out HT.out.two).go hbl) hSl)
        have hkey := next_key (((nums s).drop p).take 4) hy4
        rw [nextW_take] at hkey
        have hk := nextW_k ((nums s).drop p)
        have HST := Lib.hid (@walkP_stop (nums s) f n p)
        have HGO := Lib.hid (@walkP_go (nums s) f n p (by rw [hl.out]; exact hlt))
        have HBL := Lib.hid hbl
        have hzne : ((nums s).drop p).take 4 ≠ [] := fun e => by have := congrArg List.length e; rw [List.length_take, List.length_drop, hl.out, List.length_nil] at this; omega
        clear hsz hne hSl hbl hc1 hc2 HX hy4
        revert HX2 hkey hk HST HGO hzne
        generalize nextW ((nums s).drop p) = q
        generalize ((nums s).drop p).take 4 = z4
        intro HX2 hkey hk HST HGO hzne
        obtain ⟨v, k⟩ := q
        simp only [Prod.mk.injEq] at hkey
        simp only at hk HST HGO
        rw [List.length_drop, hl.out] at hk
        rcases hkey with ⟨hz, _⟩ | ⟨_, hE, hv, hk2⟩ | ⟨_, hE, hv, hk2⟩ | ⟨_, v', k', hE, ⟨hv, hk2⟩, hk1, _, _⟩
        · exact absurd hz hzne
        · have HK : Hid (k ≤ 0) := by show k ≤ 0; omega
          rw [hE] at HX2
          simp only [tup3] at HX2
          clear hE hv hk2 hk hzne HGO
          go_wp2_with (go_at_call 79; refine HX2.out.mono ?_; rintro e w2 ⟨rfl, hb2⟩; have HB2 := Lib.hid hb2; clear hb2)
          go_ret2
          have hfin := HW.out
          rw [HST.out (fun h => by have := HK.out; omega)] at hfin
          have B1 := HB.out.trans (HBL.out.mono HB.out.size)
          refine ⟨?_, B1.trans (HB2.out.mono B1.size)⟩
          rw [← hfin]
          rfl
        · have HK : Hid (k ≤ 0) := by show k ≤ 0; omega
          rw [hE] at HX2
          simp only [tup3] at HX2
          clear hE hv hk2 hk hzne HGO
          go_wp2_with (go_at_call 79; refine HX2.out.mono ?_; rintro e w2 ⟨rfl, hb2⟩; have HB2 := Lib.hid hb2; clear hb2)
          go_ret2
          have hfin := HW.out
          rw [HST.out (fun h => by have := HK.out; omega)] at hfin
          have B1 := HB.out.trans (HBL.out.mono HB.out.size)
          refine ⟨?_, B1.trans (HB2.out.mono B1.size)⟩
          rw [← hfin]
          rfl
        · obtain ⟨d, rfl⟩ : ∃ d : Nat, k' = (d : Int) := ⟨k'.toNat, by omega⟩
          subst hk2
          rw [hE] at HX2
          simp only [tup3] at HX2
          obtain ⟨f', hg1, hg2, hg3⟩ := HGO.out (by omega) (by rw [hl.out]; exact hf)
          have HG1 := Lib.hid hg1
          have HG2 := Lib.hid hg2
          have HG3 := Lib.hid hg3
          clear hE hv hzne HGO hg1 hg2 hg3
          go_wp2_with (go_at_call 79; refine HX2.out.mono ?_; rintro e w2 ⟨rfl, hb2⟩; have HB2 := Lib.hid hb2; clear hb2)
          go_roundw
          case rel =>
            have e : ((d : Int)).toNat = d := by omega
            have g1 := HG1.out
            have g2 := HG2.out
            have g3 := HG3.out
            rw [e] at g1 g2 g3
            have B1 := HB.out.trans (HBL.out.mono HB.out.size)
            exact ⟨n + 1, p + d, f', by go_num, by go_num, g3, by omega, g2, by rw [← g1]; exact HW.out, B1.trans (HB2.out.mono B1.size)⟩
          case measure => simp [intOf]; omega
      · have h4' : (s.size : Int) < (p : Int) + 4 := by omega
        obtain ⟨cap, W0, hrun, hc1, hc2, hSl, hbl⟩ := bytes_conv (s.extract p (s.size)) wr
        have hsz : (s.extract p (s.size)).size = s.size - p := by rw [ByteArray.size_extract]; omega
        have hne : nums (s.extract p (s.size)) = ((nums s).drop p).take 4 := by
          rw [nums_ext]
          have hd : ((nums s).drop p).length = s.size - p := by rw [List.length_drop, hl.out]
          rcases Nat.lt_or_ge (s.size - p) 4 with h | h
          · rw [List.take_of_length_le (by omega), List.take_of_length_le (by omega)]
          · rw [show s.size - p = 4 by omega]
        rw [hsz] at hrun hc1 hc2
        rw [hne] at hSl
        have hy4 : Byt (((nums s).drop p).take 4) := fun z hz => HY.out z (List.mem_of_mem_drop (List.mem_of_mem_take hz))
        have HX := Lib.hid (fun (W : World) (hTW : Tabs W) (hS : Sl W (some ⟨wr.heap.size, 0, none⟩) (((nums s).drop p).take 4)) => next_c (some ⟨wr.heap.size, 0, none⟩) (s.size - p) cap (((nums s).drop p).take 4) W hTW hS hy4 (by rw [List.length_take, List.length_drop, hl.out]; omega) hc1 (hc2 (by omega)))
        have HX2 := Lib.hid (HX.out W0 ((HT.out.below HB.out HT.out.two).go hbl) hSl)
        have hkey := next_key (((nums s).drop p).take 4) hy4
        rw [nextW_take] at hkey
        have hk := nextW_k ((nums s).drop p)
        have HST := Lib.hid (@walkP_stop (nums s) f n p)
        have HGO := Lib.hid (@walkP_go (nums s) f n p (by rw [hl.out]; exact hlt))
        have HBL := Lib.hid hbl
        have hzne : ((nums s).drop p).take 4 ≠ [] := fun e => by have := congrArg List.length e; rw [List.length_take, List.length_drop, hl.out, List.length_nil] at this; omega
        clear hsz hne hSl hbl hc1 hc2 HX hy4
        revert HX2 hkey hk HST HGO hzne
        generalize nextW ((nums s).drop p) = q
        generalize ((nums s).drop p).take 4 = z4
        intro HX2 hkey hk HST HGO hzne
        obtain ⟨v, k⟩ := q
        simp only [Prod.mk.injEq] at hkey
        simp only at hk HST HGO
        rw [List.length_drop, hl.out] at hk
        rcases hkey with ⟨hz, _⟩ | ⟨_, hE, hv, hk2⟩ | ⟨_, hE, hv, hk2⟩ | ⟨_, v', k', hE, ⟨hv, hk2⟩, hk1, _, _⟩
        · exact absurd hz hzne
        · have HK : Hid (k ≤ 0) := by show k ≤ 0; omega
          rw [hE] at HX2
          simp only [tup3] at HX2
          clear hE hv hk2 hk hzne HGO
          go_wp2_with (go_at_call 79; refine HX2.out.mono ?_; rintro e w2 ⟨rfl, hb2⟩; have HB2 := Lib.hid hb2; clear hb2)
          go_ret2
          have hfin := HW.out
          rw [HST.out (fun h => by have := HK.out; omega)] at hfin
          have B1 := HB.out.trans (HBL.out.mono HB.out.size)
          refine ⟨?_, B1.trans (HB2.out.mono B1.size)⟩
          rw [← hfin]
          rfl
        · have HK : Hid (k ≤ 0) := by show k ≤ 0; omega
          rw [hE] at HX2
          simp only [tup3] at HX2
          clear hE hv hk2 hk hzne HGO
          go_wp2_with (go_at_call 79; refine HX2.out.mono ?_; rintro e w2 ⟨rfl, hb2⟩; have HB2 := Lib.hid hb2; clear hb2)
          go_ret2
          have hfin := HW.out
          rw [HST.out (fun h => by have := HK.out; omega)] at hfin
          have B1 := HB.out.trans (HBL.out.mono HB.out.size)
          refine ⟨?_, B1.trans (HB2.out.mono B1.size)⟩
          rw [← hfin]
          rfl
        · obtain ⟨d, rfl⟩ : ∃ d : Nat, k' = (d : Int) := ⟨k'.toNat, by omega⟩
          subst hk2
          rw [hE] at HX2
          simp only [tup3] at HX2
          obtain ⟨f', hg1, hg2, hg3⟩ := HGO.out (by omega) (by rw [hl.out]; exact hf)
          have HG1 := Lib.hid hg1
          have HG2 := Lib.hid hg2
          have HG3 := Lib.hid hg3
          clear hE hv hzne HGO hg1 hg2 hg3
          go_wp2_with (go_at_call 79; refine HX2.out.mono ?_; rintro e w2 ⟨rfl, hb2⟩; have HB2 := Lib.hid hb2; clear hb2)
          go_roundw
          case rel =>
            have e : ((d : Int)).toNat = d := by omega
            have g1 := HG1.out
            have g2 := HG2.out
            have g3 := HG3.out
            rw [e] at g1 g2 g3
            have B1 := HB.out.trans (HBL.out.mono HB.out.size)
            exact ⟨n + 1, p + d, f', by go_num, by go_num, g3, by omega, g2, by rw [← g1]; exact HW.out, B1.trans (HB2.out.mono B1.size)⟩
          case measure => simp [intOf]; omega
    · have hfin := HW.out
      rw [walkP_stop (fun h => by rw [hl.out] at h; omega)] at hfin
      have HF := Lib.hid hfin
      clear hfin
      go_wp2
      go_ret2
      refine ⟨?_, HB.out⟩
      rw [← HF.out]
      rfl
end Go.Proofs.YtkphainopofejaaDoor.Ut
