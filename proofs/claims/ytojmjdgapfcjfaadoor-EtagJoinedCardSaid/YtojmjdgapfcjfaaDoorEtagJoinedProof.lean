/-
  EtagJoined (P9.1, P9.3): for every list of marks, the right ones among its first six whose texts have fewer than thirty bytes, printed with commas between, are read by package etag's Parse as those marks, and none at all as no list; chapter 9's example comes out. Condition: the listed variables of the library lie as the program's text lays them (tied card).
-/
import Derived.Test.YtojmjdgapfcjfaaDoorCards
import Derived.Test.YtojmjdgapfcjfaaDoorTie
import Derived.Test.YtojmjdgapfcjfaaDoorNuLaid
import Derived.ShutString
import Derived.ChangeOld
import Derived.SevenTiedAt
import Derived.Lib.SmallJoins
import Derived.Test.YtojmjdgapfcjfaaDoorEtJoin
namespace Go.Proofs.YtojmjdgapfcjfaaDoor.etagJoined
open Go.ChangeShapes Go.WideShapes Go.ChangeAt Go.RowKit
open Go.ChangeMaps (open_string shut_string)
open Go.Proofs.YtojmjdgapfcjfaaDoor.Ch
open Go.Proofs.YtojmjdgapfcjfaaDoor.Et
set_option linter.unusedVariables false
set_option linter.unusedSimpArgs false

theorem own : ownKnob Tryd.prog.godebug = none := by kernel_rfl
theorem laidOut : laidOutB Tryd.prog = true := by kernel_rfl

theorem bdrw {B : Nat} {w w' : World} (h : Below B w w') (n : Nat) : Below B w (w'.drewN n) := ⟨h.os, h.tape, h.output, h.size, h.block⟩
theorem own_n {T : TypeId} {B : Nat} {ao : Option Addr} {n c : Nat} {ts : List TagL} {w : World} (h : OwT T B (.slice ao n c) ts w) : n = ts.length := by
  obtain ⟨a, b, e⟩ := own_len h
  injection e
/-- what holds at the first loop's head -/
def JnR (w : World) (L : List TagL) (s v : Value) (wr : World) : Prop := ∃ ao c, s = .string (mkS (joinT L)) ∧ v = .slice ao L.length c ∧ OwT 23 w.heap.size (.slice ao L.length c) L wr ∧ Below w.heap.size w wr
theorem JnR.go {w wr W : World} {L : List TagL} {s v : Value} (h : JnR w L s v wr) (hb : Below wr.heap.size wr W) : JnR w L s v W := by
  obtain ⟨ao, c, h0, h1, h2, h3⟩ := h
  exact ⟨ao, c, h0, h1, h2.go hb, h3.trans (hb.mono h3.size)⟩
set_option maxRecDepth 100000 in
set_option maxHeartbeats 8000000 in
theorem walk (a0 : Option Addr) (len0 cap0 : Nat) (ts : List (Bool × ByteArray)) (w : World) (w0 : IsTags w a0 len0 ts) (hT : Nu.Tabs w) :
    Calls Tryd.prog 7 #[.slice a0 len0 cap0] w fun e w' => e = .returned (.bool true) ∧ Below w.heap.size w w' := by
  obtain ⟨hlen, hmax, hsz, hcell⟩ := w0
  subst hlen
  unfold maxLen at hmax
  have HT := Lib.hid hT
  have HC := Lib.hid hcell
  have HSZ := Lib.hid hsz
  have hs := stood
  obtain ⟨i0, hi, hz0, hz1, hz2⟩ := info_parts infoU
  clear hT hcell hsz
  have HJ0 : Hid (JnR w (selJ (tl ts) 0) (.string ⟨#[]⟩) (.slice none 0 0) w) := by
    have e : selJ (tl ts) 0 = [] := by simp [selJ]
    show JnR w (selJ (tl ts) 0) (.string ⟨#[]⟩) (.slice none 0 0) w
    rw [e]
    exact ⟨none, 0, rfl, rfl, World.ownsRow_nil _ _ _ _, Below.refl _ _⟩
  go_enter Tryd.func7, Tryd.ntmps7
  go_wp2
  go_loopw [3, 4, 13] (fun s v i wr => ∃ j : Nat, j ≤ ts.length ∧ i = .int .i64 j ∧ JnR w (selJ (tl ts) j) s v wr) (fun _ _ i _ => ts.length - (intOf i).toNat)
  case atStart => exact ⟨0, by omega, rfl, HJ0.out⟩
  case round =>
    clear HJ0
    obtain ⟨j, hj, rfl, hJ⟩ := hrel
    have HJ := Lib.hid hJ
    have HBR : Hid (Below w.heap.size w wr) := by obtain ⟨_, _, _, _, _, h⟩ := hJ; exact h
    have hsl := sel_len (tl ts) j
    have HOK := Lib.hid (sel_ok (tl ts) j)
    have hjl40 := join_len _ (fun t ht => (HOK.out t ht).2)
    obtain ⟨ao, c, rfl, rfl, hown, _⟩ := hJ
    have HO := Lib.hid hown
    clear hown
    by_cases hlt : j < ts.length
    · obtain ⟨g, off, ea, hg, hat⟩ := HC.out (by intro h; rw [h] at hlt; simp at hlt)
      subst ea
      have p0 : wr.cell? ⟨g, off + j * 2, none⟩ = some (.bool ts[j].1) := (HBR.out.cell (p := ⟨g, off + j * 2, none⟩) hg).trans (hat j hlt).1
      have p1 : wr.cell? ⟨g, off + j * 2 + 1, none⟩ = some (.string ts[j].2) := (HBR.out.cell (p := ⟨g, off + j * 2 + 1, none⟩) hg).trans (hat j hlt).2
      have hj0 : (0 : Int) ≤ (j : Int) := by omega
      have hjl : (j : Int) < (ts.length : Int) := by omega
      have hne : g ≠ wr.heap.size := by have := HBR.out.size; omega
      clear hat
      have hyz : ts[j].2.size ≤ maxLen := HSZ.out _ (List.getElem_mem hlt)
      have hL : j < (tl ts).length := by rw [tl_len]; exact hlt
      have HSO := Lib.hid (fun h => sel_out (L := tl ts) (j := j) h)
      have HSN := Lib.hid (fun h hk => sel_no (L := tl ts) (j := j) h hL hk)
      have HSY := Lib.hid (fun h hk => sel_yes (L := tl ts) (j := j) h hL hk)
      rw [tl_at hlt] at HSN HSY
      unfold keepB at HSN HSY
      simp only at HSN HSY
      have HRT := Lib.hid (fun W => right_m ts[j].2 W hyz)
      have HJA : Hid (∀ V, selJ (tl ts) (j + 1) = selJ (tl ts) j → JnR w (selJ (tl ts) (j + 1)) (.string (mkS (joinT (selJ (tl ts) j)))) (.slice ao (selJ (tl ts) j).length c) (wr.alloc V)) := fun V h => by rw [h]; exact HJ.out.go ((Below.refl _ _).alloc (Nat.le_refl _) _)
      clear hL
      revert p0 p1 hyz HSN HSY HRT
      generalize ts[j].2 = y
      generalize ts[j].1 = bj
      intro p0 p1 hyz HSN HSY HRT
      unfold maxLen at hyz
      by_cases h6 : j < 6
      · have h6' : (j : Int) < 6 := by omega
        cases hm : mkA y.data.toList with
        | false =>
          rw [hm] at HRT HSN
          have HNX := Lib.hid (HJA.out (.cells #[.bool bj, .string y] 23) (HSN.out h6 rfl))
          clear hm HSN HSY HSO HJA HJ HOK
          revert HNX
          generalize mkS (joinT (selJ (tl ts) j)) = sj
          generalize (selJ (tl ts) j).length = nj
          intro HNX
          go_wp2_with fail
          refine (HRT.out _).mono ?_
          rintro e w1 ⟨rfl, hw⟩
          rw [← hw]; clear hw
          go_wp2
          go_roundw
          case rel => exact ⟨j + 1, by omega, by go_num, HNX.out⟩
          case measure => simp [intOf]; omega
        | true =>
          rw [hm] at HRT HSN HSY
          by_cases h30 : y.size < 30
          · have h30' : (y.size : Int) < 30 := by omega
            have hy30 : y.data.toList.length < 30 := by rw [← Lib.size_eq]; exact h30
            have HSE := Lib.hid (HSY.out h6 (by rw [decide_eq_true hy30]; rfl))
            have HPT := Lib.hid (fun W => PrintR_c bj y W (by omega))
            have HSUM : Hid (mkS (joinT (selJ (tl ts) j)) ++ mkS (txt (bj, y.data.toList)) ++ ByteArray.mk #[44, 32] = mkS (joinT (selJ (tl ts) (j + 1)))) := by
              show mkS (joinT (selJ (tl ts) j)) ++ mkS (txt (bj, y.data.toList)) ++ ByteArray.mk #[44, 32] = _
              rw [HSE.out, join_snoc]
              exact mkS_of (by rw [app_data, app_data, data_mkS, data_mkS])
            have hzs : (mkS (joinT (selJ (tl ts) j))).size ≤ 300 := by rw [size_mkS]; omega
            have hzt : (mkS (txt (bj, y.data.toList))).size ≤ 300 := by rw [size_mkS]; unfold txt; cases bj <;> (simp; omega)
            have hz30 : decide (y.size < 30) = true := by simpa using h30
            clear hm HSN HSY HSO HJA HJ HOK hjl40 hy30
            generalize hLj : selJ (tl ts) j = Lj at *
            have HLj := Lib.hid hLj
            clear hLj
            have hsl2 : Lj.length ≤ 6 := by rw [← HLj.out]; exact sel_len _ _
            generalize mkS (joinT Lj) = sj at HSUM hzs ⊢
            generalize mkS (txt (bj, y.data.toList)) = st at HSUM hzt HPT ⊢
            have HD : Hid (∃ W2, W2 = (wr.alloc (.cells #[.bool bj, .string y] 23)).alloc (.cells #[.bool bj, .string y] 23) ∧ W2.heap[wr.heap.size + 1]? = some (.cells #[.bool bj, .string y] 23 (0, 0)) ∧ W2.heap[wr.heap.size]? = some (.cells #[.bool bj, .string y] 23 (0, 0)) ∧ Below wr.heap.size wr W2 ∧ W2.heap.size = wr.heap.size + 2) := by
              refine ⟨_, rfl, ?_, ?_, ((Below.refl _ _).alloc (Nat.le_refl _) _).alloc (by simp) _, by simp⟩
              · have := heap_alloc_new (wr.alloc (.cells #[.bool bj, .string y] 23)) (.cells #[.bool bj, .string y] 23)
                simpa using this
              · have hb := (Below.refl (wr.heap.size + 1) (wr.alloc (.cells #[.bool bj, .string y] 23))).alloc (by simp) (.cells #[.bool bj, .string y] 23)
                exact (hb.block _ (by omega)).trans (heap_alloc_new wr _)
            obtain ⟨W2, hW2, hk3, hk4, hbW, hzW⟩ := HD.out
            have HK3 := Lib.hid hk3
            have HK4 := Lib.hid hk4
            have HBW := Lib.hid hbW
            have HZW := Lib.hid hzW
            have HOW := Lib.hid (HO.out.go hbW)
            have HW2 := Lib.hid hW2
            clear HD hk3 hk4 hbW hW2 hzW
            go_wp2_with fail
            refine (HRT.out _).mono ?_
            rintro e w1 ⟨rfl, hw⟩
            rw [← hw]; clear hw
            go_wp2_with (at_builtin; rw [← HW2.out]; refine wpList_append_own _ rfl _ _ 42 rfl w.heap.size 23 i0 _ 2 24 Tryd.underlying42 hi hz0 hz1 hz2 rfl (by decide) _ _ _ rfl HOW.out ⟨wr.heap.size + 1, 0, none⟩ 1 1 [.bool bj, .string y] rfl rfl ?c1 ?c2 ?c3 ?c4 ?c5 ?_)
            case c1 =>
              intro i v hv
              have hj5 : i < 2 := by
                rcases Nat.lt_or_ge i 2 with h | h
                · exact h
                · rw [List.getElem?_eq_none (by show 2 ≤ i; exact h)] at hv; cases hv
              have ea : (⟨wr.heap.size + 1, 0, none⟩ : Addr).add i = ⟨wr.heap.size + 1, i, none⟩ := by unfold Addr.add; split <;> simp_all
              rw [ea, cell_of_row _ _ i _ _ _ HK3.out]
              match i, hj5 with
              | 0, _ => exact hv
              | 1, _ => exact hv
            case c2 => intro v hv; simp at hv; rcases hv with rfl | rfl <;> rfl
            case c3 => unfold maxLen; omega
            case c4 => omega
            case c5 => rw [HZW.out]; have := HBR.out.size; omega
            intro v' w5 hown' hgrow _
            have HF : Hid (w5.heap[wr.heap.size]? = some (.cells #[.bool bj, .string y] 23 (0, 0)) ∧ Below w.heap.size w w5 ∧ wr.heap.size + 2 ≤ w5.heap.size) := by
              have hz := HZW.out
              have hl : ∀ k, (Value.slice ao Lj.length c).ownBlock = some k → w.heap.size ≤ k ∧ k < wr.heap.size := fun k hk => HO.out.lt k hk
              refine ⟨?_, ?_, by rw [← hz]; exact hgrow.size⟩
              · rw [hgrow.block _ (by rw [hz]; omega) (fun e => by have := hl _ e.symm; omega)]; exact HK4.out
              · have hb := HBR.out.trans (HBW.out.mono HBR.out.size)
                exact hb.grown hgrow hb.size (fun k hk => (hl k hk).1)
            have HO5 : Hid (OwT 23 w.heap.size v' (Lj ++ [(bj, y.data.toList)]) w5) := by
              show OwT 23 w.heap.size v' (Lj ++ [(bj, y.data.toList)]) w5
              unfold OwT
              rw [tgC_snoc, List.length_append, ← mkS_of rfl]
              exact hown'
            clear hown' hgrow HO HOW HBW HK3 HK4 HW2 HZW p0 p1
            have HLN : Hid ((Lj ++ [(bj, y.data.toList)]).length = Lj.length + 1) := by
              show (Lj ++ [(bj, y.data.toList)]).length = Lj.length + 1
              simp
            obtain ⟨ao5, cap5, hv5⟩ := own_len HO5.out
            rw [HLN.out] at hv5
            subst hv5
            have e0 := cell_of_row _ _ 0 _ _ _ HF.out.1
            have e1 := cell_of_row _ _ 1 _ _ _ HF.out.1
            go_wp2_with fail
            refine (HPT.out _).mono ?_
            rintro e w6 ⟨rfl, hb6⟩
            have HNX : Hid (JnR w (selJ (tl ts) (j + 1)) (.string (sj ++ st ++ ByteArray.mk #[44, 32])) (.slice ao5 (Lj.length + 1) cap5) w6) := by
              show JnR w (selJ (tl ts) (j + 1)) _ _ w6
              rw [HSUM.out]
              have e2 : selJ (tl ts) (j + 1) = Lj ++ [(bj, y.data.toList)] := HSE.out
              refine ⟨ao5, cap5, rfl, by rw [e2, HLN.out], ?_, HF.out.2.1.trans (hb6.mono HF.out.2.1.size)⟩
              rw [e2, HLN.out]
              exact HO5.out.go hb6
            clear hb6 e0 e1 HF HO5 HLN HSE
            go_wp2
            go_roundw
            case rel => exact ⟨j + 1, by omega, by go_num, HNX.out⟩
            case measure => simp [intOf]; omega
          · have h30' : ¬ (y.size : Int) < 30 := by omega
            have hy30 : ¬ y.data.toList.length < 30 := by rw [← Lib.size_eq]; exact h30
            have HNX := Lib.hid (HJA.out (.cells #[.bool bj, .string y] 23) (HSN.out h6 (by rw [decide_eq_false hy30]; rfl)))
            have hz30 : decide (y.size < 30) = false := by simpa using h30
            clear hm HSN HSY HSO HJA HJ HOK hy30
            revert HNX
            generalize mkS (joinT (selJ (tl ts) j)) = sj
            generalize (selJ (tl ts) j).length = nj
            intro HNX
            go_wp2_with fail
            refine (HRT.out _).mono ?_
            rintro e w1 ⟨rfl, hw⟩
            rw [← hw]; clear hw
            go_wp2
            go_roundw
            case rel => exact ⟨j + 1, by omega, by go_num, HNX.out⟩
            case measure => simp [intOf]; omega
      · have h6' : ¬ (j : Int) < 6 := by omega
        have hd6 : decide ((j : Int) < 6) = false := by simpa using h6'
        have HNX := Lib.hid (HJA.out (.cells #[.bool bj, .string y] 23) (HSO.out (by omega)))
        clear HSN HSY HSO HJA HJ HOK
        revert HNX
        generalize mkS (joinT (selJ (tl ts) j)) = sj
        generalize (selJ (tl ts) j).length = nj
        intro HNX
        go_wp2
        go_roundw
        case rel => exact ⟨j + 1, by omega, by go_num, HNX.out⟩
        case measure => simp [intOf]; omega
    · have HPA := Lib.hid (fun W => Parse_c (mkS (joinT (selJ (tl ts) j))) W (by rw [size_mkS]; omega))
      rw [data_mkS, join_prs _ (fun t ht => (HOK.out t ht).1)] at HPA
      clear HJ HOK hjl40
      revert HPA HO hsl
      generalize mkS (joinT (selJ (tl ts) j)) = sj
      generalize selJ (tl ts) j = L
      intro hsl HO HPA
      cases L with
      | nil =>
        go_wp2_with fail
        refine (HPA.out _).mono ?_
        rintro e w1 ⟨ao1, n1, c1, he, _, hb1⟩
        obtain rfl : e = .returned (.tuple #[.agg #[.bool false, .slice ao1 n1 c1], .int .i64 3]) := he
        have HB1 : Hid (Below w.heap.size w w1) := HBR.out.trans (hb1.mono HBR.out.size)
        clear hb1
        have HB2 : Hid (Below w.heap.size w (w1.alloc (.cells #[.bool false, .slice ao1 n1 c1] 39))) := HB1.out.alloc HB1.out.size _
        have HT2 : Hid (Nu.Tabs (w1.alloc (.cells #[.bool false, .slice ao1 n1 c1] 39))) := HT.out.below HB2.out (Nat.le_refl _)
        go_wp2_with fail
        refine (awake_c _ HT2.out).mono ?_
        rintro e w9 ⟨rfl, hb9⟩
        have HB9 := Lib.hid hb9
        clear hb9
        go_wp2
        go_ret
        exact ⟨rfl, HB2.out.trans (HB9.out.mono HB2.out.size)⟩
      | cons t0 L0 =>
        go_wp2_with fail
        refine (HPA.out _).mono ?_
        rintro e w1 ⟨ao1, n1, c1, he, ho1, hb1⟩
        obtain rfl : e = .returned (.tuple #[.agg #[.bool false, .slice ao1 n1 c1], .int .i64 0]) := he
        replace ho1 : OwT 28 wr.heap.size (.slice ao1 n1 c1) (t0 :: L0) w1 := ho1
        obtain rfl := own_n ho1
        have HB1 : Hid (Below w.heap.size w w1) := HBR.out.trans (hb1.mono HBR.out.size)
        have HO1 := Lib.hid (HO.out.go hb1)
        have HP1 := Lib.hid ho1
        clear hb1 ho1 HO HPA
        have hpos : 0 < (t0 :: L0).length := by simp
        revert HO1 HP1 hpos hsl
        generalize t0 :: L0 = L
        intro hsl HO1 HP1 hpos
        have HW : Hid (∃ W6, W6 = w1.alloc (.cells #[.bool false, .slice ao1 L.length c1] 39) ∧ OwT 23 w.heap.size (.slice ao L.length c) L W6 ∧ OwT 28 wr.heap.size (.slice ao1 L.length c1) L W6 ∧ Below w.heap.size w W6 ∧ W6.cell? ⟨w1.heap.size, 0, none⟩ = some (.bool false) ∧ W6.cell? ⟨w1.heap.size, 1, none⟩ = some (.slice ao1 L.length c1) ∧ w1.heap.size < W6.heap.size) := by
          have hb : Below w1.heap.size w1 (w1.alloc (.cells #[.bool false, .slice ao1 L.length c1] 39)) := (Below.refl _ _).alloc (Nat.le_refl _) _
          exact ⟨_, rfl, HO1.out.go hb, HP1.out.go hb, HB1.out.trans (hb.mono HB1.out.size), (new2 w1 _ _ _).1, (new2 w1 _ _ _).2, by rw [World.size_alloc]; exact Nat.lt_succ_self _⟩
        obtain ⟨W6, hW6, ho6, hp6, hb6, d0, d1, hl4⟩ := HW.out
        have HO6 := Lib.hid ho6
        have HP6 := Lib.hid hp6
        have HB6 := Lib.hid hb6
        have HWE := Lib.hid hW6
        clear HW hW6 ho6 hp6 hb6 HO1 HP1
        have hl0 : L.length ≠ 0 := by omega
        have hl0' : ((L.length : Int) == 0) = false := beq_eq_false_iff_ne.2 (by omega)
        go_wp2
        rw [← HWE.out]
        clear HWE
        go_loopw [70] (fun v wq => ∃ k : Nat, k ≤ L.length ∧ v = .int .i64 k ∧ Below W6.heap.size W6 wq) (fun v _ => L.length - (intOf v).toNat)
        case atStart => exact ⟨0, by omega, rfl, Below.refl _ _⟩
        case round =>
          rename World => wq
          obtain ⟨k, hk, rfl, hB⟩ := hrel
          have k1 : wq.cell? ⟨w1.heap.size, 1, none⟩ = some (.slice ao1 L.length c1) := (hB.cell (p := ⟨w1.heap.size, 1, none⟩) hl4).trans d1
          have hsq := hB.size
          by_cases hlk : k < L.length
          · obtain ⟨g1, c1', e1, hg1, _, hc1, hat1⟩ := owt_at HP6.out (by omega)
            obtain ⟨g2, c2', e2, hg2, _, hc2, hat2⟩ := owt_at HO6.out (by omega)
            injection e1 with e1a e1b e1c
            injection e2 with e2a e2b e2c
            subst e1a e2a e1c e2c
            have p0 : wq.cell? ⟨g1, k * 2, none⟩ = some (.bool L[k].1) := (hB.cell (p := ⟨g1, k * 2, none⟩) hg1).trans (hat1 k hlk).1
            have p1 : wq.cell? ⟨g1, k * 2 + 1, none⟩ = some (.string (mkS L[k].2)) := (hB.cell (p := ⟨g1, k * 2 + 1, none⟩) hg1).trans (hat1 k hlk).2
            have r0 : wq.cell? ⟨g2, k * 2, none⟩ = some (.bool L[k].1) := (hB.cell (p := ⟨g2, k * 2, none⟩) hg2).trans (hat2 k hlk).1
            have r1 : wq.cell? ⟨g2, k * 2 + 1, none⟩ = some (.string (mkS L[k].2)) := (hB.cell (p := ⟨g2, k * 2 + 1, none⟩) hg2).trans (hat2 k hlk).2
            have HB := Lib.hid hB
            have hna : w1.heap.size ≠ wq.heap.size := by omega
            have hnb : g1 ≠ wq.heap.size := by omega
            have hla : w1.heap.size < wq.heap.size := by omega
            have hlb : g1 < wq.heap.size := by omega
            clear hB hat1 hat2 d0 d1
            revert p0 p1 r0 r1
            generalize mkS L[k].2 = xx
            generalize L[k].1 = bb
            intro p0 p1 r0 r1
            have hk0 : (0 : Int) ≤ (k : Int) := by omega
            have hkl : (k : Int) < (L.length : Int) := by omega
            go_wp2
            go_quiet (fail)
            go_wp2
            go_roundw
            case rel => exact ⟨k + 1, by omega, by go_num, bdrw (HB.out.alloc hsq _) _⟩
            case measure => simp [intOf]; omega
          · have HB : Hid (Below w.heap.size w wq) := HB6.out.trans (hB.mono HB6.out.size)
            have HTW : Hid (Nu.Tabs wq) := HT.out.below HB.out (Nat.le_refl _)
            clear hB d0 d1
            go_wp2_with fail
            refine (awake_c _ HTW.out).mono ?_
            rintro e w9 ⟨rfl, hb9⟩
            have HB9 := Lib.hid hb9
            clear hb9
            go_wp2
            go_ret
            exact ⟨rfl, HB.out.trans (HB9.out.mono HB.out.size)⟩

set_option maxRecDepth 100000 in
theorem lifted (os : Os) (started : os.Started) (H : Type) (enc : TypeId × Value → H) :
    ReturnsInHanded {} Tryd.checked os 7 .any (fun w args => (Rows.etagJoinedSpec.pre enc Tryd.prog Tryd.f7 [] false w args ∧ laidMetH Tryd.prog [("math/bits.deBruijn32tab", Rows.laid_math_bits_deBruijn32tab), ("math/bits.deBruijn64tab", Rows.laid_math_bits_deBruijn64tab), ("internal/strconv.uint64pow10", Rows.laid_internal_strconv_uint64pow10)] w) ∧ sizedMet enc Tryd.prog Tryd.f7 (OpenSpec.ofChange Rows.etagJoinedSpec) false w args)
      (Rows.etagJoinedSpec.post enc Tryd.prog Tryd.f7 false true false false) := by
  refine returnsInHanded_of_change_and (C := Tryd.checked) (X := fun w _ => laidMetH Tryd.prog [("math/bits.deBruijn32tab", Rows.laid_math_bits_deBruijn32tab), ("math/bits.deBruijn64tab", Rows.laid_math_bits_deBruijn64tab), ("internal/strconv.uint64pow10", Rows.laid_internal_strconv_uint64pow10)] w) (fun _ _ _ hh h => h.of_heap hh) own started (by kernel_rfl) Tryd.func7
    (ChangeSpec.witness_shaped (enc := enc) (C := Tryd.checked) (os := os) (X := fun w _ => laidMetH Tryd.prog [("math/bits.deBruijn32tab", Rows.laid_math_bits_deBruijn32tab), ("math/bits.deBruijn64tab", Rows.laid_math_bits_deBruijn64tab), ("internal/strconv.uint64pow10", Rows.laid_internal_strconv_uint64pow10)] w) false (World.doorLaid Tryd.prog 400 os) #[.slice none 0 0] 8 rfl (World.shaped_of_RefB (by kernel_rfl) (by kernel_rfl)) (by kernel_rfl) (by kernel_rfl) (by kernel_rfl) (Nu.door_met os _)) ?_
  intro W base args ds gs before hval0 hW _ _ hL _
  have hval : ∀ (j : Nat) t v, Tryd.f7.params[j]? = some t → args[j]? = some v → Value.okWide Tryd.prog W .any base t v := hval0
  have hW' := hW
  obtain ⟨p, q, hA0, hV, rfl, hfz, hnd⟩ := hW
  have hA : DataW.TrodAll enc Tryd.prog W 0 (fun _ => true) true Tryd.f7.params.toList args.toList ds p := hA0
  rw [Tryd.params7] at hA hval
  obtain ⟨v0, vs0, d0, ds0, p0, q0, hargs, rfl, rfl, h0, r0⟩ := trodAll_cons hA
  obtain ⟨rfl, rfl, rfl⟩ := trodAll_nil r0
  obtain rfl : args = #[v0] := by cases args; simp_all
  obtain ⟨rfl, rfl⟩ := trodVars_none hV
  have k0 := h0
  have lt0 : ∀ x ∈ p0, x.block < W.heap.size := by obtain ⟨m, hm⟩ := k0; exact DataW.trod_lt m _ _ _ hm
  obtain ⟨a0, len0, cap0, rfl⟩ := okWide_slice Tryd.underlying42 (hval 0 42 v0 rfl rfl)
  obtain ⟨z0, w0⟩ := tags_of h0
  clear hA0 hval0
  have hT := Nu.of_laid hL
  refine (walk a0 len0 cap0 z0 W w0 hT).mono fun e W' ⟨he, bel⟩ => ?_
  subst he
  exact ⟨_, rfl, _, _, _, [], _, [], hW', trodAll_mk1 (shut_bool Tryd.underlying4 _), (trodAll_cons_mk (Below.trod laidOut (by kernel_rfl) (of_decide_eq_true (by kernel_rfl)) k0 bel lt0) trodAll_mk0), rfl, bel.frame _, fun h => by cases h⟩

theorem over : Rows.EtagJoinedSaid :=
  OpenClaim.holds_of_wide 7 Tryd.f7 rfl rfl rfl rfl rfl rfl rfl ⟨rfl, rfl, rfl, rfl, rfl⟩ rfl rfl rfl rfl rfl (by kernel_rfl) Tryd.func7 (by kernel_rfl)
    (of_decide_eq_true (by kernel_rfl)) (by unfold Func.isWrapper; first | (rw [if_pos (by decide +kernel)]; kernel_rfl) | (rw [if_neg (by decide +kernel)]; exact ⟨rfl, rfl⟩))
    (fun os started H enc _ => lifted os started H enc)
end Go.Proofs.YtojmjdgapfcjfaaDoor.etagJoined
namespace Go.Proofs.YtojmjdgapfcjfaaDoor
theorem etagJoined_card : Rows.EtagJoinedCardSaid :=
  Claim7.holds_tied_plain_at .later [] [.data, .data, .data] true (true, "914a9bb9b9637a45452587cbd278f72a662e2d63687d4ca143f048852a48901a") false
    etagJoined.over (fun _ h => by cases h) (by kernel_rfl) (fun _ h => by cases h) etagJoined_row_tie rfl ⟨rfl, rfl⟩ (by kernel_rfl) rfl
    (fun f fn hf hfn => by
      obtain rfl : f = 7 := Option.some.inj ((show Tryd.prog.funcNamed Tryd.f7.name = some 7 by kernel_rfl).symm.trans hf) |>.symm
      obtain rfl : fn = Tryd.f7 := (Option.some.inj (Tryd.func7.symm.trans hfn)).symm
      exact ⟨by kernel_rfl, fun j t ht => by
        rw [Tryd.params7] at ht
        have hm : t ∈ [42] := by simpa using Array.mem_of_getElem? ht
        have hall : ([42].all fun u => !Tryd.prog.wantsStandIn u) = true := by kernel_rfl
        exact (show Tryd.prog.wantsStandIn t = false by simpa using List.all_eq_true.1 hall t hm)⟩)
    (by kernel_rfl)
#print axioms etagJoined_card
end Go.Proofs.YtojmjdgapfcjfaaDoor
