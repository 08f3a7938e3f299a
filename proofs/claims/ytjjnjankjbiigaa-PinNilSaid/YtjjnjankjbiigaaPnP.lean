/- The law PinBounds: never more are held than may be; what is lowest; no other condition. -/
import Derived.Test.YtjjnjankjbiigaaPnO
namespace Go.Proofs.Ytjjnjankjbiigaa.Pn
open Go.RowKit Go.Lib Go.Maps
set_option linter.unusedSimpArgs false
set_option linter.unusedVariables false

theorem cnt_drop (l : List Pin) (i : Int) : cnt (dropL l i) ≤ cnt l := by
  unfold dropL
  cases h : att l i with
  | none => exact Nat.le_refl _
  | some x =>
    obtain ⟨h1, h2⟩ := att_one.1 h
    obtain ⟨h3, h4⟩ := List.getElem?_eq_some_iff.1 h2
    unfold cnt
    simp only
    rw [List.countP_set h3, h4]
    simp
theorem stepL_cnt {m : Int} {l : List Pin} (h : (cnt l : Int) ≤ max m 1) (o : OpT) : (cnt (stepL m l o) : Int) ≤ max m 1 := by
  unfold stepL
  split
  · unfold addL
    split
    · rename_i _ he
      unfold addE at he
      split at he
      · cases he
      · split at he
        · cases he
        · rw [cnt_snoc]; omega
    · exact h
  · split
    · rw [cnt_keep]; exact h
    · split
      · have := cnt_drop l o.2.1; omega
      · split
        · have := cnt_exp l o.2.2; omega
        · exact h
theorem runL_cnt {m : Int} {ts : List OpT} : ∀ j, j ≤ ts.length → (cnt (runL m ts j) : Int) ≤ max m 1
  | 0, _ => by show ((0 : Nat) : Int) ≤ _; omega
  | j + 1, h => by
    rw [runL_succ (by omega)]
    exact stepL_cnt (runL_cnt j (by omega)) _
/-- the lowest one is not above one that is held -/
theorem lst_low {l : List Pin} {i : Int} (h : hb l i = true) : ¬ rv l i < (lst l).1 := by
  obtain ⟨x, hx⟩ := Option.isSome_iff_exists.1 h
  unfold rv
  rw [hx]
  rcases lst_is l with ⟨_, h2⟩ | ⟨_, _, h3⟩
  · rw [h2] at hx; cases hx
  · have := h3 i x hx
    simp; omega
set_option maxRecDepth 100000 in
set_option maxHeartbeats 8000000 in
theorem bounds_law (b : Int) (hb0 : 0 ≤ b ∧ b ≤ 255) (a : Option Addr) (len cap : Nat) (ts : List OpT) (w : World) (h : IsOps w a len ts) :
    Calls Try.prog 4 #[.int .u8 b, .slice a len cap] w fun e w' => e = .returned (.bool true) ∧ Below w.heap.size w w' := by
  obtain ⟨hlen, hmx, hall, hat⟩ := h
  subst hlen
  have HALL := Lib.hid hall
  have HAT := Lib.hid hat
  unfold maxLen at hmx
  clear hall hat
  have hm1 : 1 ≤ 1 + b % 8 ∧ 1 + b % 8 ≤ 8 := by omega
  obtain ⟨b0, b1⟩ := hb0
  go_enter Try.func4, Try.ntmps4
  go_wp2_with fail
  revert hm1
  generalize 1 + b % 8 = m
  intro hm1
  refine (New_c m w).mono ?_
  rintro e w1 ⟨rfl, hn1, hb1⟩
  go_wp2_with fail
  refine (New_r m w1).mono ?_
  rintro e w2 ⟨rfl, hn2, hb2⟩
  have K0 := Lib.hid (Kb.new hn1 hb1 hn2 hb2)
  clear hn1 hb1 hn2 hb2
  obtain ⟨c, hc⟩ : ∃ c, c = w.heap.size := ⟨_, rfl⟩
  obtain ⟨d, hd⟩ : ∃ d, d = w1.heap.size := ⟨_, rfl⟩
  have e0 : Hid (Kb c none d none m [] [] w w2) := by rw [hc, hd]; exact K0
  rw [← hc, ← hd]
  clear K0 hc hd
  generalize b % 8 = b8
  go_wp2
  go_loopw [25] (fun iv wr => ∃ (j : Nat) (mb gd : Option Nat), j ≤ ts.length ∧ j ≤ 40 ∧ iv = .int .i64 j ∧ Hid (Kb c mb d gd m (runL m ts j) (runL m ts j) w wr)) (fun iv _ => 41 - (intOf iv).toNat)
  case atStart => exact ⟨0, none, none, by omega, by omega, rfl, e0⟩
  case round =>
    obtain ⟨j, mb, gd, hj, hj40, rfl, HK⟩ := hrel
    clear e0
    by_cases hlt : j < ts.length
    · obtain ⟨g, off, hao, hg, hcells⟩ := HAT.out (by omega)
      obtain ⟨p0', p1', p2'⟩ := hcells j hlt
      have hcw : ∀ k, wr.cell? ⟨g, k, none⟩ = w.cell? ⟨g, k, none⟩ := fun k => HK.out.bel.cell (p := ⟨g, k, none⟩) hg
      have p0 := (hcw _).trans p0'
      have p1 := (hcw _).trans p1'
      have p2 := (hcw _).trans p2'
      have hjl : (j : Int) < (ts.length : Int) := by omega
      have hj0 : (0 : Int) ≤ (j : Int) := by omega
      have hgw : g < wr.heap.size := Nat.lt_of_lt_of_le hg HK.out.bel.size
      have hgn : g ≠ wr.heap.size := by omega
      have hL := runL_len m ts j hj
      have hrs := runL_succ (m := m) hlt
      have hi1 := runL_i64 (m := m) HALL.out (j + 1) (by omega)
      have hoi := HALL.out _ (List.getElem_mem hlt)
      have hL1 := runL_len m ts (j + 1) (by omega)
      have hcn := runL_cnt (m := m) (ts := ts) (j + 1) (by omega)
      have HRS : Hid (stepL m (runL m ts j) ts[j] = runL m ts (j + 1)) := hrs.symm
      obtain ⟨⟨k, x, u⟩, ho⟩ : ∃ o : OpT, ts[j] = o := ⟨_, rfl⟩
      rw [ho] at p0 p1 p2 hoi HRS
      simp only at p0 p1 p2 hoi
      subst hao
      obtain ⟨WX, hWX, hkX, hbX⟩ := new3 wr (.int .i64 k) (.int .i64 x) (.int .i64 u) 28
      have KX := Lib.hid (HK.out.go hbX)
      obtain ⟨x0, x1, x2⟩ := cells3 hkX
      have HWX := Lib.hid hWX
      have HST : Hid (Calls Try.prog 8 #[.pointer (some ⟨c, 0, none⟩), .pointer (some ⟨d, 0, none⟩), .agg #[.int .i64 k, .int .i64 x, .int .i64 u]] WX (StQ c d m (runL m ts (j + 1)) w)) := by
        have := step_c KX.out (k, x, u) hoi (by omega)
        rw [HRS.out] at this
        exact this
      have HI := Lib.hid hi1
      have HBX : Hid (Below w.heap.size w WX) := KX.out.bel
      clear p0' p1' p2' hcw hcells hkX hbX hWX ho hrs hi1 hoi HRS KX hL
      by_cases h40 : 40 ≤ j
      · have h40' : (40 : Int) ≤ (j : Int) := by omega
        go_upto_region 6 with (fail)
        rw [← HWX.out]
        go_wp2_with fail
        refine (awake_c WX).mono ?_
        rintro e w9 ⟨rfl, hb9⟩
        have B9 : Hid (Below w.heap.size w w9) := HBX.out.trans (hb9.mono HBX.out.size)
        clear hb9
        go_wp2
        go_ret
        exact ⟨rfl, B9.out⟩
      · have h40' : ¬ (40 : Int) ≤ (j : Int) := by omega
        have h40'' : (j : Int) < 40 := by omega
        revert HST HI hL1 hcn
        generalize hl : runL m ts (j + 1) = l
        intro hL1 hcn HST HI
        have HLE : Hid (runL m ts (j + 1) = l) := hl
        have hcm : ¬ m < (cnt l : Int) := by omega
        clear hl hcn
        go_upto_region 6 with (fail)
        rw [← HWX.out]
        go_wp2_with fail
        refine HST.out.mono ?_
        rintro e w3 ⟨rfl, mb3, gd3, hk3⟩
        have K3 := Lib.hid hk3
        clear hk3 HK HST x0 x1 x2 p0 p1 p2
        go_wp2_with fail
        refine (Least_c K3.out.pn HI.out).mono ?_
        rintro e w4 ⟨rfl, hb4⟩
        have K4 := Lib.hid (K3.out.go hb4)
        clear hb4 K3
        have hok := lst_ok l
        have HLOW : Hid (∀ i, hb l i = true → ¬ rv l i < (lst l).1) := fun i hi => lst_low hi
        revert hok HLOW
        generalize lst l = s
        obtain ⟨lv, lk⟩ := s
        intro hok HLOW
        simp only at hok
        subst hok
        have PL : Hid (∀ V, Kb c mb3 d gd3 m l l w V → Calls Try.prog 9 #[.pointer (some ⟨c, 0, none⟩)] V fun e w' => e = .returned (.int .i64 (cnt l : Nat)) ∧ w' = V) := fun V hV => Len_c hV.pn
        by_cases h0 : 0 < cnt l
        · rw [decide_eq_true h0]
          have h0' : (0 : Int) < (cnt l : Int) := by omega
          clear h0
          revert PL hcm h0'
          generalize (cnt l : Int) = ck
          intro hcm PL h0'
          go_wp2_with fail
          refine (PL.out _ K4.out).mono ?_
          rintro e w5 ⟨rfl, rfl⟩
          go_wp2_with fail
          refine (PL.out _ K4.out).mono ?_
          rintro e w6 ⟨rfl, rfl⟩
          obtain ⟨vr, hvr, hor, _⟩ := K4.out.rp.ex
          obtain ⟨aor, capr, rfl⟩ := own_form hor
          clear hvr hor
          go_wp2
          go_loopw [12] (fun iv wq => ∃ i : Nat, i ≤ l.length ∧ iv = .int .i64 ((i : Int) + 1) ∧ Hid (Kb c mb3 d gd3 m l l w wq)) (fun iv _ => 41 - (intOf iv).toNat)
          case atStart => exact ⟨0, by omega, rfl, K4⟩
          case round =>
            obtain ⟨i, hil, rfl, KI⟩ := hrel
            clear K4
            obtain ⟨vr, hvr, hor, _⟩ := KI.out.rp.ex
            obtain ⟨aor, capr, rfl⟩ := own_form hor
            obtain ⟨r0, r1⟩ := cells2 hvr
            clear hvr hor
            by_cases hlt2 : i < l.length
            · have hii : (i : Int) + 1 ≤ (l.length : Int) := by omega
              have hwf : I64v ((i : Int) + 1) := WalkArith.wf_i64 (by omega)
              have HRV := Lib.hid (Rev_c KI.out.pn hwf)
              cases hh : hb l ((i : Int) + 1) with
              | true =>
                have hlow : lv ≤ rv l ((i : Int) + 1) := by have := HLOW.out _ hh; omega
                rw [hh] at HRV
                revert HRV hlow
                generalize rv l ((i : Int) + 1) = rr
                intro HRV hlow
                have hlb : decide (rr < lv) = false := decide_eq_false (by omega)
                clear hlow
                clear hh
                go_wp2_with fail
                refine HRV.out.mono ?_
                rintro e w7 ⟨rfl, hb7⟩
                have K7 := Lib.hid (KI.out.go hb7)
                clear hb7 KI r0 r1 HRV
                go_wp2
                go_roundw
                case rel => exact ⟨i + 1, by omega, by go_num, K7⟩
                case measure => simp [intOf]; omega
              | false =>
                rw [hh] at HRV
                revert HRV
                generalize rv l ((i : Int) + 1) = rr
                intro HRV
                clear hh
                go_wp2_with fail
                refine HRV.out.mono ?_
                rintro e w7 ⟨rfl, hb7⟩
                have K7 := Lib.hid (KI.out.go hb7)
                clear hb7 KI r0 r1 HRV
                go_wp2
                go_roundw
                case rel => exact ⟨i + 1, by omega, by go_num, K7⟩
                case measure => simp [intOf]; omega
            · have hii : ¬ (i : Int) + 1 ≤ (l.length : Int) := by omega
              clear r1
              go_wp2
              go_roundw
              case rel => exact ⟨j + 1, mb3, gd3, by omega, by omega, by go_num, by rw [HLE.out]; exact KI⟩
              case measure => simp [intOf]; omega
        · rw [decide_eq_false h0]
          have h0' : ¬ (0 : Int) < (cnt l : Int) := by omega
          clear h0
          revert PL hcm h0'
          generalize (cnt l : Int) = ck
          intro hcm PL h0'
          go_wp2_with fail
          refine (PL.out _ K4.out).mono ?_
          rintro e w5 ⟨rfl, rfl⟩
          go_wp2_with fail
          refine (PL.out _ K4.out).mono ?_
          rintro e w6 ⟨rfl, rfl⟩
          obtain ⟨vr, hvr, hor, _⟩ := K4.out.rp.ex
          obtain ⟨aor, capr, rfl⟩ := own_form hor
          clear hvr hor
          go_wp2
          go_loopw [12] (fun iv wq => ∃ i : Nat, i ≤ l.length ∧ iv = .int .i64 ((i : Int) + 1) ∧ Hid (Kb c mb3 d gd3 m l l w wq)) (fun iv _ => 41 - (intOf iv).toNat)
          case atStart => exact ⟨0, by omega, rfl, K4⟩
          case round =>
            obtain ⟨i, hil, rfl, KI⟩ := hrel
            clear K4
            obtain ⟨vr, hvr, hor, _⟩ := KI.out.rp.ex
            obtain ⟨aor, capr, rfl⟩ := own_form hor
            obtain ⟨r0, r1⟩ := cells2 hvr
            clear hvr hor
            by_cases hlt2 : i < l.length
            · have hii : (i : Int) + 1 ≤ (l.length : Int) := by omega
              have hwf : I64v ((i : Int) + 1) := WalkArith.wf_i64 (by omega)
              have HRV := Lib.hid (Rev_c KI.out.pn hwf)
              cases hh : hb l ((i : Int) + 1) with
              | true =>
                have hlow : lv ≤ rv l ((i : Int) + 1) := by have := HLOW.out _ hh; omega
                rw [hh] at HRV
                revert HRV hlow
                generalize rv l ((i : Int) + 1) = rr
                intro HRV hlow
                have hlb : decide (rr < lv) = false := decide_eq_false (by omega)
                clear hlow
                clear hh
                go_wp2_with fail
                refine HRV.out.mono ?_
                rintro e w7 ⟨rfl, hb7⟩
                have K7 := Lib.hid (KI.out.go hb7)
                clear hb7 KI r0 r1 HRV
                go_wp2
                go_roundw
                case rel => exact ⟨i + 1, by omega, by go_num, K7⟩
                case measure => simp [intOf]; omega
              | false =>
                rw [hh] at HRV
                revert HRV
                generalize rv l ((i : Int) + 1) = rr
                intro HRV
                clear hh
                go_wp2_with fail
                refine HRV.out.mono ?_
                rintro e w7 ⟨rfl, hb7⟩
                have K7 := Lib.hid (KI.out.go hb7)
                clear hb7 KI r0 r1 HRV
                go_wp2
                go_roundw
                case rel => exact ⟨i + 1, by omega, by go_num, K7⟩
                case measure => simp [intOf]; omega
            · have hii : ¬ (i : Int) + 1 ≤ (l.length : Int) := by omega
              clear r1
              go_wp2
              go_roundw
              case rel => exact ⟨j + 1, mb3, gd3, by omega, by omega, by go_num, by rw [HLE.out]; exact KI⟩
              case measure => simp [intOf]; omega
    · have hjl : ¬ (j : Int) < (ts.length : Int) := by omega
      go_wp2_with fail
      refine (awake_c wr).mono ?_
      rintro e w9 ⟨rfl, hb9⟩
      have B9 : Hid (Below w.heap.size w w9) := HK.out.bel.trans (hb9.mono HK.out.bel.size)
      clear hb9
      go_wp2
      go_ret
      exact ⟨rfl, B9.out⟩
end Go.Proofs.Ytjjnjankjbiigaa.Pn
