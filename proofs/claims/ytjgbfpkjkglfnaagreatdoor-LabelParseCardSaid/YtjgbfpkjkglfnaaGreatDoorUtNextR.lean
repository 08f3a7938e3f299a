/- The contract of the document's own Next: the same answer as the plain one; for every row of bytes. -/
import Derived.Test.YtjgbfpkjkglfnaaGreatDoorUtBeginsW
namespace Go.Proofs.YtjgbfpkjkglfnaaGreatDoor.Ut
open Go.RowKit
set_option linter.unusedSimpArgs false
set_option linter.unusedVariables false

def nextW (zs : List Int) : Int × Int := if zs = [] then (0, 0) else nextR zs
theorem szI_le (z : Int) : szI z ≤ 4 := by unfold szI; (repeat' split) <;> omega
theorem nextW_hit {zs : List Int} {j : Nat} (hy : Byt zs) (h1 : 1 ≤ j) (h4 : j ≤ 4) (hj : j ≤ zs.length) (h : encOK zs j) : nextW zs = (valT zs j, (j : Int)) := by
  rw [enc_iff zs j hy h1 h4 hj] at h
  obtain ⟨hs, hok⟩ := h
  have hz : zs ≠ [] := fun e => by subst e; simp at hj; omega
  unfold nextW nextR
  rw [if_neg hz, if_neg (by omega), show min zs.length (szI (gd zs 0)) = j by omega, if_pos hok, if_neg (by omega), hs]
theorem nextW_beg {zs : List Int} (h : begP zs) : nextW zs = (0, -1) := by
  obtain ⟨h1, h3, hs, hok⟩ := h
  have hz : zs ≠ [] := fun e => by subst e; simp at h1
  unfold nextW nextR
  rw [if_neg hz, if_neg (by omega), show min zs.length (szI (gd zs 0)) = zs.length by omega, if_pos hok, if_pos hs]
theorem nextW_no {zs : List Int} (hy : Byt zs) (hb : ¬ begP zs) (h : ∀ j, 1 ≤ j → j ≤ 4 → j ≤ zs.length → ¬ encOK zs j) : nextW zs = (0, 0) := by
  unfold nextW nextR
  by_cases hz : zs = []
  · rw [if_pos hz]
  · rw [if_neg hz]
    have hp : 0 < zs.length := List.length_pos_iff.2 hz
    by_cases hs : szI (gd zs 0) = 0
    · rw [if_pos hs]
    · rw [if_neg hs]
      have h4 := szI_le (gd zs 0)
      rw [if_neg ?_]
      intro hok
      by_cases hl : zs.length < szI (gd zs 0)
      · rw [show min zs.length (szI (gd zs 0)) = zs.length by omega] at hok
        exact hb ⟨by omega, by omega, hl, hok⟩
      · rw [show min zs.length (szI (gd zs 0)) = szI (gd zs 0) by omega] at hok
        exact h (szI (gd zs 0)) (by omega) h4 (by omega) ((enc_iff zs _ hy (by omega) h4 (by omega)).2 ⟨rfl, hok⟩)

def tup2 (a b : Int) : Ending := .returned (.tuple #[.int .i64 a, .int .i64 b])

set_option maxRecDepth 100000 in
set_option maxHeartbeats 8000000 in
theorem nextr_walk (b off n cap : Nat) (zs : List Int) (w : World) (hB : Bts w b off zs) (hbw : b < w.heap.size) (hy : Byt zs) (hn : Hid (zs.length = n)) (h1 : 1 ≤ n) (hm : n ≤ cap) (hcm : cap ≤ maxLen) :
    Calls Tryz.prog 72 #[.slice (some ⟨b, off, none⟩) n cap] w fun e w' => e = tup2 (nextW zs).1 (nextW zs).2 ∧ Below w.heap.size w w' := by
  unfold maxLen at hcm
  have HB0 := Lib.hid hB
  have HBW := Lib.hid hbw
  have HY := Lib.hid hy
  clear hB hbw hy
  go_enter Tryz.func72, Tryz.ntmps72
  go_wp2
  go_loopw [4] (fun i wr => ∃ k : Nat, 1 ≤ k ∧ k ≤ 5 ∧ k ≤ n + 1 ∧ i = .int .i64 k ∧ (∀ j, 1 ≤ j → j < k → ¬ encOK zs j) ∧ Below w.heap.size w wr) (fun i _ => 5 - (intOf i).toNat)
  case atStart => exact ⟨1, by omega, by omega, by omega, rfl, fun j ha hb => by omega, Below.refl _ _⟩
  case round =>
    obtain ⟨k, hk1, hk5, hkn, rfl, hno, hW⟩ := hrel
    have HN := Lib.hid hno
    have HW := Lib.hid hW
    clear hno hW
    by_cases hlt : k ≤ 4 ∧ k ≤ n
    · obtain ⟨hk4, hkl⟩ := hlt
      have hk4' : (k : Int) ≤ 4 := by omega
      have hkl' : (k : Int) ≤ (n : Int) := by omega
      have hkc' : (k : Int) ≤ (cap : Int) := by omega
      have HBR : Hid (Bts wr b off zs) := HB0.out.below HW.out HBW.out
      have HBWR : Hid (b < wr.heap.size) := Nat.lt_of_lt_of_le HBW.out HW.out.size
      have HV := Lib.hid (value_r b off n cap k zs wr HBWR.out HBR.out HY.out hk1 hk4 (by have := hn.out; omega) (by have := hn.out; omega) (by unfold maxLen; omega))
      have HTK : Hid ((zs.take k).length = k) := by show (zs.take k).length = k; have := hn.out; rw [List.length_take]; omega
      have HHIT : Hid (encOK zs k → nextW zs = (valT zs k, (k : Int))) := fun h => nextW_hit HY.out hk1 hk4 (by have := hn.out; omega) h
      have HEN : Hid (encOK zs k ↔ (isR (valT zs k) = true ∧ putI (valT zs k) = zs.take k)) := Iff.rfl
      have HTB : Hid (Byt (zs.take k)) := fun z hz => HY.out z (List.mem_of_mem_take hz)
      have HTR : Hid (∀ W, Bts W b off zs → Bts W b off (zs.take k)) := fun W h j hj => by
        rw [h j (by rw [List.length_take] at hj; omega)]
        simp
      revert HV HTK HHIT HEN HTB HTR
      generalize valT zs k = v
      generalize zs.take k = cs
      intro HV HTK HHIT HEN HTB HTR
      go_wp2_with fail
      refine HV.out.mono ?_
      rintro e w5 ⟨rfl, hb5⟩
      have HB5 : Hid (Below w.heap.size w w5) := HW.out.trans (hb5.mono HW.out.size)
      have HC5D : Hid (Bts w5.drew b off cs) := HTR.out _ (HBR.out.below hb5.drew HBWR.out)
      have HG5D : Hid (b < w5.drew.heap.size) := Nat.lt_of_lt_of_le HBWR.out hb5.size
      clear hb5 HV HBR HBWR HTR HW
      cases hr : isR v with
      | false =>
        have HNE : Hid (¬ encOK zs k) := fun h => by have := (HEN.out.1 h).1; rw [hr] at this; cases this
        have HI : Hid (∀ W : World, Calls Tryz.prog 94 #[.int .i64 v] W fun e w' => e = .returned (.bool false) ∧ w' = W) := fun W => by have h := is_r v W; rw [hr] at h; exact h.mono fun e w' hh => ⟨hh.1, hh.2.symm⟩
        clear hr
        go_wp2
        go_quiet ((go_at_call 94; exact Calls.quiet_of_same (HI.out _)))
        go_wp2
        go_roundw
        case rel => exact ⟨k + 1, by omega, by omega, by omega, by go_num, fun j ha hb => (by
          by_cases e : j = k
          · subst e; exact HNE.out
          · exact HN.out j ha (by omega)), below_drewN HB5.out _⟩
        case measure => simp [intOf]; omega
      | true =>
        have HI : Hid (∀ W : World, Calls Tryz.prog 94 #[.int .i64 v] W fun e w' => e = .returned (.bool true) ∧ W = w') := fun W => by have h := is_r v W; rw [hr] at h; exact h
        have HP : Hid (∀ W : World, Calls Tryz.prog 95 #[.int .i64 v] W (New (putI v) W)) := fun W => put_r v W hr
        have hcv : (convert 53 9 (.slice (some ⟨b, off, none⟩) k cap)).run Tryz.prog w5.drew = .ok (.string (strOfNums cs)) w5.drew := conv_str HC5D.out HTK.out.symm
        have HQQ := Lib.hid (str_nums (putI v) cs (putI_byt v hr) HTB.out)
        have HEN2 : Hid (encOK zs k ↔ putI v = cs) := by show encOK zs k ↔ putI v = cs; rw [HEN.out]; exact ⟨fun h => h.2, fun h => ⟨hr, h⟩⟩
        clear hr HEN
        revert HP HQQ HEN2
        generalize putI v = pv
        intro HP HQQ HEN2
        by_cases hpe : pv = cs
        · have hq : ((strOfNums pv).toList == (strOfNums cs).toList) = true := by rw [HQQ.out]; exact decide_eq_true hpe
          have HPE := Lib.hid hpe
          clear hpe
          go_wp2
          go_region_with (first | (go_at_call 94; refine (HI.out _).mono ?_; rintro e w' ⟨rfl, rfl⟩) | (go_at_call 95; refine (HP.out _).mono ?_; rintro e w' ⟨gp, cp, rfl, hcp, hcm, hgp, hbp, hbl⟩; have hcv1 := conv_str (len := pv.length) (cap := cp) hbp rfl; have hcv2 := conv_str (w := w') (len := k) (cap := cap) (HC5D.out.below hbl HG5D.out) HTK.out.symm; have HBL := Lib.hid hbl; clear hbl hbp))
          all_goals
            go_wp2
            go_ret2
            refine ⟨?_, HB5.out.trans ((Below.drew (Below.refl _ _)).trans (HBL.out.mono HB5.out.size))⟩
            rw [HHIT.out (HEN2.out.2 HPE.out)]
            rfl
        · have hq : ((strOfNums pv).toList == (strOfNums cs).toList) = false := by rw [HQQ.out]; exact decide_eq_false hpe
          have HPE := Lib.hid hpe
          clear hpe
          go_wp2
          go_region_with (first | (go_at_call 94; refine (HI.out _).mono ?_; rintro e w' ⟨rfl, rfl⟩) | (go_at_call 95; refine (HP.out _).mono ?_; rintro e w' ⟨gp, cp, rfl, hcp, hcm, hgp, hbp, hbl⟩; have hcv1 := conv_str (len := pv.length) (cap := cp) hbp rfl; have hcv2 := conv_str (w := w') (len := k) (cap := cap) (HC5D.out.below hbl HG5D.out) HTK.out.symm; have HBL := Lib.hid hbl; clear hbl hbp))
          all_goals
            go_wp2
            go_roundw
            case rel => exact ⟨k + 1, by omega, by omega, by omega, by go_num, fun j ha hb => (by
              by_cases e : j = k
              · subst e; exact fun h => HPE.out (HEN2.out.1 h)
              · exact HN.out j ha (by omega)), HB5.out.trans ((Below.drew (Below.refl _ _)).trans (HBL.out.mono HB5.out.size))⟩
            case measure => simp [intOf]; omega
    · have HALL : Hid (∀ j, 1 ≤ j → j ≤ 4 → j ≤ zs.length → ¬ encOK zs j) := fun j ha hb hc => HN.out j ha (by have := hn.out; omega)
      have HBR : Hid (Sl wr (some ⟨b, off, none⟩) zs) := fun _ => ⟨b, off, rfl, Nat.lt_of_lt_of_le HBW.out HW.out.size, HB0.out.below HW.out HBW.out⟩
      have HG := Lib.hid (beg_r (some ⟨b, off, none⟩) n cap zs wr HBR.out HY.out hn.out (by unfold maxLen; omega))
      have HNB : Hid (begP zs → nextW zs = (0, -1)) := nextW_beg
      have HNN : Hid (¬ begP zs → nextW zs = (0, 0)) := fun h => nextW_no HY.out h HALL.out
      by_cases hk4 : k ≤ 4
      · have hk4' : (k : Int) ≤ 4 := by omega
        have hkl' : decide ((k : Int) ≤ (n : Int)) = false := by simp; omega
        have hkl2 : decide (k ≤ n) = false := by simp; omega
        by_cases hbg : begP zs
        · rw [decide_eq_true hbg] at HG
          have HBG := Lib.hid hbg
          clear hbg
          go_wp2_with (go_at_call 96; refine HG.out.mono ?_; rintro e w6 ⟨rfl, hb6⟩; have HB6 := Lib.hid hb6; clear hb6)
          go_ret2
          refine ⟨?_, HW.out.trans (HB6.out.mono HW.out.size)⟩
          rw [HNB.out HBG.out]
          rfl
        · rw [decide_eq_false hbg] at HG
          have HBG := Lib.hid hbg
          clear hbg
          go_wp2_with (go_at_call 96; refine HG.out.mono ?_; rintro e w6 ⟨rfl, hb6⟩; have HB6 := Lib.hid hb6; clear hb6)
          go_ret2
          refine ⟨?_, HW.out.trans (HB6.out.mono HW.out.size)⟩
          rw [HNN.out HBG.out]
          rfl
      · have hk4' : ¬ ((k : Int) ≤ 4) := by omega
        have hk42 : decide ((k : Int) ≤ 4) = false := by simp; omega
        by_cases hbg : begP zs
        · rw [decide_eq_true hbg] at HG
          have HBG := Lib.hid hbg
          clear hbg
          go_wp2_with (go_at_call 96; refine HG.out.mono ?_; rintro e w6 ⟨rfl, hb6⟩; have HB6 := Lib.hid hb6; clear hb6)
          go_ret2
          refine ⟨?_, HW.out.trans (HB6.out.mono HW.out.size)⟩
          rw [HNB.out HBG.out]
          rfl
        · rw [decide_eq_false hbg] at HG
          have HBG := Lib.hid hbg
          clear hbg
          go_wp2_with (go_at_call 96; refine HG.out.mono ?_; rintro e w6 ⟨rfl, hb6⟩; have HB6 := Lib.hid hb6; clear hb6)
          go_ret2
          refine ⟨?_, HW.out.trans (HB6.out.mono HW.out.size)⟩
          rw [HNN.out HBG.out]
          rfl

theorem nextr_nil (A : Option Addr) (cap : Nat) (w : World) : Calls Tryz.prog 72 #[.slice A 0 cap] w fun e w' => e = tup2 0 0 ∧ Below w.heap.size w w' := by
  have HG := Lib.hid (beg_len A 0 cap w (by unfold maxLen; omega) (.inl rfl))
  go_enter Tryz.func72, Tryz.ntmps72
  go_wp2
  refine wp_loop_rounds 1 ?_
  rw [rounds_succ]
  go_wp2_with (go_at_call 96; refine HG.out.mono ?_; rintro e w6 ⟨rfl, hb6⟩; have HB6 := Lib.hid hb6; clear hb6)
  go_ret2
  exact ⟨rfl, HB6.out⟩
theorem nextr_c (A : Option Addr) (n cap : Nat) (zs : List Int) (w : World) (hA : Sl w A zs) (hy : Byt zs) (hn : zs.length = n) (hm : n ≤ cap) (hcm : cap ≤ maxLen) :
    Calls Tryz.prog 72 #[.slice A n cap] w fun e w' => e = tup2 (nextW zs).1 (nextW zs).2 ∧ Below w.heap.size w w' := by
  by_cases hz : zs = []
  · subst hz
    obtain rfl : n = 0 := by simpa using hn.symm
    exact nextr_nil A cap w
  · obtain ⟨b, off, rfl, hbw, hB⟩ := hA hz
    have hp : 0 < zs.length := List.length_pos_iff.2 hz
    exact nextr_walk b off n cap zs w hB hbw hy hn (by omega) hm hcm
end Go.Proofs.YtjgbfpkjkglfnaaGreatDoor.Ut
