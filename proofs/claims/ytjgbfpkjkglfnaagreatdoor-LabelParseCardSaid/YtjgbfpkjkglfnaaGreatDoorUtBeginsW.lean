/- The walk of the document's own Begins; for every row of bytes. -/
import Derived.Test.YtjgbfpkjkglfnaaGreatDoorUtBegins
namespace Go.Proofs.YtjgbfpkjkglfnaaGreatDoor.Ut
open Go.RowKit
set_option linter.unusedSimpArgs false
set_option linter.unusedVariables false

theorem beg_len (A : Option Addr) (n cap : Nat) (w : World) (hm : n ≤ maxLen) (h : n = 0 ∨ 3 < n) : Calls Tryz.prog 96 #[.slice A n cap] w fun e w' => e = .returned (.bool false) ∧ Below w.heap.size w w' := by
  unfold maxLen at hm
  rcases h with rfl | h
  · go_enter Tryz.func96, Tryz.ntmps96
    go_wp2
    go_ret
    exact ⟨rfl, Below.refl _ _⟩
  · have hne : ((n : Int) == 0) = false := by simp; omega
    have h3 : (3 : Int) < (n : Int) := by omega
    go_enter Tryz.func96, Tryz.ntmps96
    go_wp2
    go_ret
    exact ⟨rfl, Below.refl _ _⟩

theorem six_cells (w : World) : ∀ j, j < 6 → (w.alloc (.cells #[.int .u8 128, .int .u8 143, .int .u8 144, .int .u8 159, .int .u8 160, .int .u8 191] 5)).cell? ⟨w.heap.size, j, none⟩ = some (.int .u8 (gd sixL j)) := by
  intro j hj
  rw [World.cell?_alloc_at _ _ _ _ rfl]
  match j, hj with
  | 0, _ | 1, _ | 2, _ | 3, _ | 4, _ | 5, _ => rfl
theorem six_mem (j : Nat) (hj : j < 6) : gd sixL j ∈ sixL := by
  match j, hj with
  | 0, _ | 1, _ | 2, _ | 3, _ | 4, _ | 5, _ => simp [gd, sixL]
theorem six_at {x : Int} (h : x ∈ sixL) : ∃ j, j < 6 ∧ gd sixL j = x := by
  obtain ⟨j, hj, rfl⟩ := List.getElem_of_mem h
  exact ⟨j, hj, (gd_at hj).symm⟩

set_option maxRecDepth 100000 in
set_option maxHeartbeats 8000000 in
theorem beg_walk (b off n cap : Nat) (zs : List Int) (w : World) (hB : Bts w b off zs) (hbw : b < w.heap.size) (hy : Byt zs) (hn : Hid (zs.length = n)) (h1 : 1 ≤ n) (h3 : n ≤ 3) :
    Calls Tryz.prog 96 #[.slice (some ⟨b, off, none⟩) n cap] w fun e w' => e = .returned (.bool (decide (begP zs))) ∧ Below w.heap.size w w' := by
  obtain ⟨i0, hi, hz0, hz1, hz2⟩ := info_parts info5
  have HB0 := Lib.hid hB
  have HBW := Lib.hid hbw
  have HY := Lib.hid hy
  clear hB hbw hy
  have hne : ((n : Int) == 0) = false := by simp; omega
  have h3' : ¬ ((3 : Int) < (n : Int)) := by omega
  go_enter Tryz.func96, Tryz.ntmps96
  go_wp2
  clear hne h3'
  go_loopw [3] (fun i wr => ∃ m : Nat, n < m ∧ m ≤ 5 ∧ i = .int .i64 m ∧ (∀ m' x, n < m' → m' < m → x ∈ sixL → ¬ encOK (fillL zs m' x) m') ∧ Below w.heap.size w wr) (fun i _ => 5 - (intOf i).toNat)
  case atStart => exact ⟨n + 1, by omega, by omega, by go_num, fun m' x ha hb => by omega, Below.refl _ _⟩
  case round =>
    obtain ⟨m, hm1, hm5, rfl, hno, hW⟩ := hrel
    have HN := Lib.hid hno
    have HW := Lib.hid hW
    clear hno hW
    by_cases hlt : m ≤ 4
    · have hlt' : (m : Int) ≤ 4 := by omega
      go_wp2
      have HS : Hid (∀ j, j < 6 → (wr.alloc (.cells #[.int .u8 128, .int .u8 143, .int .u8 144, .int .u8 159, .int .u8 160, .int .u8 191] 5)).cell? ⟨wr.heap.size, j, none⟩ = some (.int .u8 (gd sixL j))) := six_cells wr
      have HBS : Hid (Below w.heap.size w (wr.alloc (.cells #[.int .u8 128, .int .u8 143, .int .u8 144, .int .u8 159, .int .u8 160, .int .u8 191] 5))) := HW.out.alloc HW.out.size _
      have HGS : Hid (wr.heap.size < (wr.alloc (.cells #[.int .u8 128, .int .u8 143, .int .u8 144, .int .u8 159, .int .u8 160, .int .u8 191] 5)).heap.size) := by show wr.heap.size < _; simp
      clear HW
      revert HS HBS HGS
      generalize wr.alloc (.cells #[.int .u8 128, .int .u8 143, .int .u8 144, .int .u8 159, .int .u8 160, .int .u8 191] 5) = W2
      generalize wr.heap.size = g6
      intro HS HBS HGS
      go_loopw [27] (fun i wq => ∃ j : Nat, j ≤ 6 ∧ i = .int .i64 j ∧ (∀ j', j' < j → ¬ encOK (fillL zs m (gd sixL j')) m) ∧ Below W2.heap.size W2 wq) (fun i _ => 6 - (intOf i).toNat)
      case atStart => exact ⟨0, by omega, rfl, fun j' hj => by omega, Below.refl _ _⟩
      case round =>
        rename World => wq
        obtain ⟨j, hj6, rfl, hnj, hQ⟩ := hrel
        have HNJ := Lib.hid hnj
        have HQ := Lib.hid hQ
        clear hnj hQ
        by_cases hjl : j < 6
        · have hcj : wq.cell? ⟨g6, j, none⟩ = some (.int .u8 (gd sixL j)) := (HQ.out.cell (p := ⟨g6, j, none⟩) HGS.out).trans (HS.out j hjl)
          have HM := Lib.hid (six_mem j hjl)
          have HNX : Hid (¬ encOK (fillL zs m (gd sixL j)) m → ∀ j', j' < j + 1 → ¬ encOK (fillL zs m (gd sixL j')) m) := fun h j' hj' => by
            by_cases e : j' = j
            · subst e; exact h
            · exact HNJ.out j' (by omega)
          have HWQ : Hid (Below w.heap.size w wq) := HBS.out.trans (HQ.out.mono HBS.out.size)
          have HBQ : Hid (∀ t (ht : t < zs.length), (wq.alloc (.cells #[] 5)).cell? ((⟨b, off, none⟩ : Addr).add t) = some (.int .u8 zs[t])) := fun t ht => by
            have e : (⟨b, off, none⟩ : Addr).add t = ⟨b, off + t, none⟩ := by unfold Addr.add; split <;> simp_all
            rw [e, World.cell?_alloc_lt _ _ _ (Nat.lt_of_lt_of_le HBW.out HWQ.out.size)]
            exact (HWQ.out.cell (p := ⟨b, off + t, none⟩) HBW.out).trans (HB0.out t ht)
          revert hcj HM HNX
          generalize gd sixL j = x
          intro hcj HM HNX
          go_wp2_with (at_builtin; refine wpList_append_own _ rfl _ _ 53 rfl wq.heap.size 5 i0 (.int .u8 0) 1 1 Tryz.underlying53 hi hz0 hz1 hz2 rfl (by decide) _ _ _ rfl (World.ownsRow_made wq #[] 0 (Nat.le_refl _) (by unfold maxLen; omega) rfl) ⟨b, off, none⟩ n cap (zs.map (Value.int .u8)) rfl ?c1 ?c2 ?c3 ?c4 ?c5 ?c6 ?_)
          case c1 => have := hn.out; rw [List.length_map]; omega
          case c2 =>
            intro t u hu
            have ht : t < zs.length := by have := (List.getElem?_eq_some_iff.1 hu).1; simpa using this
            rw [HBQ.out t ht]
            simpa [List.getElem?_eq_getElem ht] using hu
          case c3 => intro u hu; obtain ⟨q, _, rfl⟩ := List.mem_map.1 hu; rfl
          case c4 => unfold maxLen; omega
          case c5 => omega
          case c6 => simp
          · intro v' w3 hown' hgrow _
            have HST : Hid (w3.ownsRow wq.heap.size 5 1 v' n (((fillL zs m x).take n).map (Value.int .u8))) := by
              show w3.ownsRow wq.heap.size 5 1 v' n (((fillL zs m x).take n).map (Value.int .u8))
              rw [← hn.out, fill_old, hn.out]
              simpa using hown'
            have HB3 : Hid (Below wq.heap.size wq w3) := ((Below.refl _ _).alloc (Nat.le_refl _) _).grown hgrow (by simp) (fun k hk => by simp [Value.ownBlock] at hk; omega)
            clear hown' hgrow HBQ
            go_wp2
            go_loopw [6, 7] (fun v i ws => ∃ k : Nat, n ≤ k ∧ k ≤ m ∧ i = .int .i64 k ∧ ws.ownsRow wq.heap.size 5 1 v k (((fillL zs m x).take k).map (Value.int .u8)) ∧ Below wq.heap.size wq ws) (fun _ i _ => m - (intOf i).toNat)
            case atStart => exact ⟨n, by omega, by omega, rfl, HST.out, HB3.out⟩
            case round =>
              rename World => ws
              clear HST HB3
              obtain ⟨k, hk1, hk2, rfl, hown, hBs⟩ := hrel
              have HO := Lib.hid hown
              have HBs := Lib.hid hBs
              clear hBs
              by_cases hkm : k < m
              · have HSN := Lib.hid (fill_snoc zs m x k (by have := hn.out; omega) hkm)
                rw [show zs.length = n from hn.out] at HSN
                by_cases e : k = n
                · have e' : ((k : Int) == (n : Int)) = true := by simp [e]
                  have e'' : decide (k = n) = true := by simpa using e
                  have HE := Lib.hid e
                  clear e
                  go_wp2_with (at_builtin; refine wpList_append_own _ rfl _ _ 53 rfl wq.heap.size 5 i0 (.int .u8 0) 1 1 Tryz.underlying53 hi hz0 hz1 hz2 rfl (by decide) _ _ _ rfl (hown.alloc _) ⟨ws.heap.size, 0, none⟩ 1 1 [.int .u8 x] rfl rfl ?d1 ?d2 ?d3 ?d4 ?d5 ?_)
                  case d1 =>
                    intro j u hj
                    match j, hj with
                    | 0, hj => simp at hj; subst hj; simp [Addr.add]
                  case d2 => intro u hu; simp at hu; subst hu; rfl
                  case d3 => unfold maxLen; omega
                  case d4 => omega
                  case d5 => have := HBs.out.size; simp; omega
                  · intro v'' w4 hown'' hgrow'' _
                    have HR : Hid (w4.ownsRow wq.heap.size 5 1 v'' (k + 1) (((fillL zs m x).take (k + 1)).map (Value.int .u8)) ∧ Below wq.heap.size wq w4) := by
                      refine ⟨?_, HBs.out.trans (((Below.refl _ _).alloc HBs.out.size _).grown hgrow'' (by have := HBs.out.size; simp; omega) (fun q hq => (HO.out.lt q hq).1))⟩
                      rw [HSN.out, if_pos HE.out, List.map_append]
                      simpa using hown''
                    clear hown'' hgrow'' hown
                    go_wp2
                    go_roundw
                    case rel => exact ⟨k + 1, by omega, by omega, by go_num, HR.out.1, HR.out.2⟩
                    case measure => simp [intOf]; omega
                · have e' : ((k : Int) == (n : Int)) = false := by simp; omega
                  have e'' : decide (k = n) = false := by simpa using e
                  go_wp2_with (at_builtin; refine wpList_append_own _ rfl _ _ 53 rfl wq.heap.size 5 i0 (.int .u8 0) 1 1 Tryz.underlying53 hi hz0 hz1 hz2 rfl (by decide) _ _ _ rfl (hown.alloc _) ⟨ws.heap.size, 0, none⟩ 1 1 [.int .u8 128] rfl rfl ?f1 ?f2 ?f3 ?f4 ?f5 ?_)
                  case f1 =>
                    intro j u hj
                    match j, hj with
                    | 0, hj => simp at hj; subst hj; simp [Addr.add]
                  case f2 => intro u hu; simp at hu; subst hu; rfl
                  case f3 => unfold maxLen; omega
                  case f4 => omega
                  case f5 => have := HBs.out.size; simp; omega
                  · intro v'' w4 hown'' hgrow'' _
                    have HR : Hid (w4.ownsRow wq.heap.size 5 1 v'' (k + 1) (((fillL zs m x).take (k + 1)).map (Value.int .u8)) ∧ Below wq.heap.size wq w4) := by
                      refine ⟨?_, HBs.out.trans (((Below.refl _ _).alloc HBs.out.size _).grown hgrow'' (by have := HBs.out.size; simp; omega) (fun q hq => (HO.out.lt q hq).1))⟩
                      rw [HSN.out, if_neg e, List.map_append]
                      simpa using hown''
                    clear hown'' hgrow'' hown
                    go_wp2
                    go_roundw
                    case rel => exact ⟨k + 1, by omega, by omega, by go_num, HR.out.1, HR.out.2⟩
                    case measure => simp [intOf]; omega
              · obtain rfl : k = m := by omega
                obtain ⟨gc, capc, rfl⟩ := Joins.ownsRow_form hown (by omega)
                have hfl : (fillL zs k x).take k = fillL zs k x := List.take_of_length_le (by have := hn.out; rw [fill_len zs k x (by omega)]; exact Nat.le_refl _)
                have HFB : Hid (Byt (fillL zs k x)) := fill_byt zs k x HY.out (by have := six_range HM.out; omega)
                have HFL : Hid ((fillL zs k x).length = k) := fill_len zs k x (by have := hn.out; omega)
                have HCB : Hid (Bts ws gc 0 (fillL zs k x)) := by rw [hfl] at hown; exact bts_own hown
                have HGC : Hid (gc < ws.heap.size) := (hown.lt gc rfl).2
                have HYN : Hid (encOK (fillL zs k x) k → begP zs) := fun h => beg_yes HY.out (by have := hn.out; omega) (by have := hn.out; omega) hlt HM.out h
                have HWS : Hid (Below w.heap.size w ws) := HWQ.out.trans (HBs.out.mono HWQ.out.size)
                clear hfl hown HO
                revert HFB HFL HCB HYN HNX
                generalize fillL zs k x = cs
                intro HNX HFB HFL HCB HYN
                have HV := Lib.hid (value_r gc 0 k capc k cs ws HGC.out HCB.out HFB.out (by omega) hlt (by have := HFL.out; omega) (by have := HFL.out; omega) (by unfold maxLen; omega))
                have HEN : Hid (encOK cs k ↔ (isR (valT cs k) = true ∧ putI (valT cs k) = cs)) := by
                  show encOK cs k ↔ (isR (valT cs k) = true ∧ putI (valT cs k) = cs)
                  unfold encOK
                  rw [List.take_of_length_le (by have := HFL.out; omega)]
                revert HV HEN
                generalize valT cs k = v
                intro HV HEN
                go_wp2_with fail
                refine HV.out.mono ?_
                rintro e w5 ⟨rfl, hb5⟩
                have HB5 : Hid (Below w.heap.size w w5) := HWS.out.trans (hb5.mono HWS.out.size)
                have HBQ5 : Hid (Below W2.heap.size W2 w5) := HQ.out.trans ((HBs.out.trans (hb5.mono HBs.out.size)).mono HQ.out.size)
                have HC5 : Hid (Bts w5 gc 0 cs) := HCB.out.below hb5 HGC.out
                have HG5 : Hid (gc < w5.heap.size) := Nat.lt_of_lt_of_le HGC.out hb5.size
                clear hb5 HV HCB HGC HWS HBs
                cases hr : isR v with
                | false =>
                  have HNE : Hid (¬ encOK cs k) := fun h => by have := (HEN.out.1 h).1; rw [hr] at this; cases this
                  have HI : Hid (∀ W : World, Calls Tryz.prog 94 #[.int .i64 v] W fun e w' => e = .returned (.bool false) ∧ w' = W) := fun W => by have h := is_r v W; rw [hr] at h; exact h.mono fun e w' hh => ⟨hh.1, hh.2.symm⟩
                  clear hr
                  go_wp2
                  go_quiet ((go_at_call 94; exact Calls.quiet_of_same (HI.out _)))
                  go_wp2
                  go_roundw
                  case rel => exact ⟨j + 1, by omega, by go_num, HNX.out HNE.out, below_drewN HBQ5.out _⟩
                  case measure => simp [intOf]; omega
                | true =>
                  have HI : Hid (∀ W : World, Calls Tryz.prog 94 #[.int .i64 v] W fun e w' => e = .returned (.bool true) ∧ W = w') := fun W => by have h := is_r v W; rw [hr] at h; exact h
                  have HP : Hid (∀ W : World, Calls Tryz.prog 95 #[.int .i64 v] W (New (putI v) W)) := fun W => put_r v W hr
                  have HC5D : Hid (Bts w5.drew gc 0 cs) := HC5.out
                  have HG5D : Hid (gc < w5.drew.heap.size) := HG5.out
                  have hcv : (convert 53 9 (.slice (some ⟨gc, 0, none⟩) k capc)).run Tryz.prog w5.drew = .ok (.string (strOfNums cs)) w5.drew := conv_str (w := w5.drew) HC5.out HFL.out.symm
                  have HQQ := Lib.hid (str_nums (putI v) cs (putI_byt v hr) HFB.out)
                  have HEN2 : Hid (encOK cs k ↔ putI v = cs) := by show encOK cs k ↔ putI v = cs; rw [HEN.out]; exact ⟨fun h => h.2, fun h => ⟨hr, h⟩⟩
                  clear hr HEN
                  revert HP HQQ HEN2
                  generalize putI v = pv
                  intro HP HQQ HEN2
                  by_cases hpe : pv = cs
                  · have hq : ((strOfNums pv).toList == (strOfNums cs).toList) = true := by rw [HQQ.out]; exact decide_eq_true hpe
                    have HPE := Lib.hid hpe
                    clear hpe
                    go_wp2
                    go_region_with (first | (go_at_call 94; refine (HI.out _).mono ?_; rintro e w' ⟨rfl, rfl⟩) | (go_at_call 95; refine (HP.out _).mono ?_; rintro e w' ⟨gp, cp, rfl, hcp, hcm, hgp, hbp, hbl⟩; have hcv1 := conv_str (len := pv.length) (cap := cp) hbp rfl; have hcv2 := conv_str (w := w') (len := k) (cap := capc) (HC5D.out.below hbl HG5D.out) HFL.out.symm; have HBL := Lib.hid hbl; clear hbl hbp))
                    all_goals
                      go_wp2
                      go_ret
                      exact ⟨ret_bool (decide_eq_true (HYN.out (HEN2.out.2 HPE.out))).symm, HB5.out.trans ((Below.drew (Below.refl _ _)).trans (HBL.out.mono HB5.out.size))⟩
                  · have hq : ((strOfNums pv).toList == (strOfNums cs).toList) = false := by rw [HQQ.out]; exact decide_eq_false hpe
                    have HPE := Lib.hid hpe
                    clear hpe
                    go_wp2
                    go_region_with (first | (go_at_call 94; refine (HI.out _).mono ?_; rintro e w' ⟨rfl, rfl⟩) | (go_at_call 95; refine (HP.out _).mono ?_; rintro e w' ⟨gp, cp, rfl, hcp, hcm, hgp, hbp, hbl⟩; have hcv1 := conv_str (len := pv.length) (cap := cp) hbp rfl; have hcv2 := conv_str (w := w') (len := k) (cap := capc) (HC5D.out.below hbl HG5D.out) HFL.out.symm; have HBL := Lib.hid hbl; clear hbl hbp))
                    all_goals
                      go_wp2
                      go_roundw
                      case rel => exact ⟨j + 1, by omega, by go_num, HNX.out (fun h => HPE.out (HEN2.out.1 h)), HBQ5.out.trans ((Below.drew (Below.refl _ _)).trans (HBL.out.mono HBQ5.out.size))⟩
                      case measure => simp [intOf]; omega
        · have HALL : Hid (∀ x, x ∈ sixL → ¬ encOK (fillL zs m x) m) := fun x hx => by
            obtain ⟨j', hj', rfl⟩ := six_at hx
            exact HNJ.out j' (by omega)
          have HWQ : Hid (Below w.heap.size w wq) := HBS.out.trans (HQ.out.mono HBS.out.size)
          go_wp2
          go_roundw
          case rel =>
            refine ⟨m + 1, by omega, by omega, by go_num, fun m' x ha hb hx => ?_, HWQ.out⟩
            by_cases e : m' = m
            · subst e; exact HALL.out x hx
            · exact HN.out m' x ha (by omega) hx
          case measure => simp [intOf]; omega
    · have HNB : Hid (¬ begP zs) := beg_no HY.out (fun m' x ha hb hx => HN.out m' x (by have := hn.out; omega) (by omega) hx)
      have hlt' : ¬ ((m : Int) ≤ 4) := by omega
      go_wp2
      go_ret
      exact ⟨ret_bool (decide_eq_false HNB.out).symm, HW.out⟩

theorem beg_r (A : Option Addr) (n cap : Nat) (zs : List Int) (w : World) (hA : Sl w A zs) (hy : Byt zs) (hn : zs.length = n) (hm : n ≤ maxLen) :
    Calls Tryz.prog 96 #[.slice A n cap] w fun e w' => e = .returned (.bool (decide (begP zs))) ∧ Below w.heap.size w w' := by
  by_cases h : n = 0 ∨ 3 < n
  · refine (beg_len A n cap w hm h).mono fun e w' ⟨he, hb⟩ => ⟨?_, hb⟩
    rw [he]
    exact ret_bool (decide_eq_false (fun hp => by obtain ⟨h1, h3, _⟩ := hp; omega)).symm
  · have hz : zs ≠ [] := fun e => by subst e; simp at hn; omega
    obtain ⟨b, off, rfl, hbw, hB⟩ := hA hz
    exact beg_walk b off n cap zs w hB hbw hy hn (by omega) (by omega)
end Go.Proofs.YtjgbfpkjkglfnaaGreatDoor.Ut
