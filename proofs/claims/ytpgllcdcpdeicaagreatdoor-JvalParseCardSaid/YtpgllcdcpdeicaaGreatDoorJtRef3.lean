/- The contract of the document's unit at a backslash: for every text of at most a thousand bytes, every place in it. -/
import Derived.Test.YtpgllcdcpdeicaaGreatDoorJtRef2
import Derived.Deep.QuietTactic
import Derived.BigQuiet
namespace Go.Proofs.YtpgllcdcpdeicaaGreatDoor.Jt
open Go.RowKit
set_option linter.unusedSimpArgs false
set_option linter.unusedVariables false

theorem pla_lit : (ByteArray.mk #[34, 92, 47, 98, 102, 110, 114, 116]) = mkS plaL := rfl
theorem unit_back {l : List UInt8} {k : Nat} (h : at0 l k = 92) : unitL l k = backL l k := by unfold unitL; rw [if_neg (by omega), if_neg (by omega)]
theorem bts_one {w : World} {g j : Nat} {c : Int} (h : w.cell? ⟨g, j, none⟩ = some (.int .u8 c)) (h0 : 0 ≤ c) (h1 : c ≤ 255) : Ut.Bts w g j (nl [UInt8.ofNat c.toNat]) := by
  intro i hi
  have : i = 0 := by simp [nl] at hi; omega
  subst this
  rw [Nat.add_zero, h]
  have e : nb (UInt8.ofNat c.toNat) = c := by
    unfold nb
    have e : (UInt8.ofNat c.toNat).toNat = c.toNat % 256 := by simp
    rw [e]; omega
  simp [nl, e]
def UnR (l : List UInt8) (k : Nat) (w : World) (v : Value) (wr : World) : Prop := ∃ j : Nat, v = .int .i64 (j : Int) ∧ j ≤ 8 ∧ (∀ t, t < j → nb (plaL.getD t 0) ≠ at0 l (k + 1)) ∧ wr.heap[w.heap.size]? = some (.cells meaV 5 (0, 0)) ∧ Below w.heap.size w wr
theorem mea_bd : ∀ j : Fin 8, 0 ≤ meaI.getD j.val 0 ∧ meaI.getD j.val 0 ≤ 255 := by decide +kernel
set_option maxRecDepth 100000 in
set_option maxHeartbeats 8000000 in
theorem unitr_back (s : ByteArray) (k : Nat) (w : World) (hs : s.size ≤ 1000) (hk : k < s.size) (h : at0 s.data.toList k = 92) : Calls Tryz.prog 44 #[.string s, .int .i64 (k : Int)] w (UnP (unitL s.data.toList k) w) := by
  rw [unit_back h]
  have hbi := byte_i s k hk
  have hk' : (k : Int) < (s.size : Int) := by omega
  have h1' : ¬ (s[k].toNat : Int) < 32 := by rw [hbi, h]; decide
  have hd : decide ((s[k].toNat : Int) < 32) = false := by simpa using h1'
  have q : ((s[k].toNat : Int) == 34) = false := by rw [byte_q s k hk, h]; rfl
  have q2 : ((s[k].toNat : Int) != 92) = false := by rw [bne, byte_q s k hk, h]; rfl
  clear h hbi
  by_cases hk1 : s.size ≤ k + 1
  · have HB : Hid (backL s.data.toList k = ([], 0)) := by show backL s.data.toList k = _; unfold backL; rw [if_pos (by rw [← size_l]; exact hk1)]
    have hk1' : (s.size : Int) ≤ (k : Int) + 1 := by omega
    go_enter Tryz.func44, Tryz.ntmps44
    go_wp2
    go_ret2
    exact unp_no (by rw [HB.out]) ⟨rfl, Below.refl _ _⟩
  have hk1' : (k : Int) + 1 < (s.size : Int) := by omega
  have hk2 : k + 1 < s.size := by omega
  have hl := Lib.hid (size_l s)
  have HST : Hid (UnR s.data.toList k w (.int .i64 0) (w.alloc (.cells meaV 5))) := ⟨0, rfl, by omega, fun t ht => by omega, heap_alloc_new w _, (Below.refl _ _).alloc (Nat.le_refl _) _⟩
  have HBI := Lib.hid (byte_i s (k + 1) hk2)
  clear hk1
  go_enter Tryz.func44, Tryz.ntmps44
  rw [pla_lit]
  generalize hF : mkS plaL = F
  have hFs : F.size = 8 := by rw [← hF]; rfl
  have HX : Hid (∀ (m : Nat) (h : m < F.size), (F[m].toNat : Int) = nb (plaL.getD m 0)) := fun m h => by
    rw [← Nu.getD_at F m h, ← hF]; rfl
  clear hF
  go_wp2
  go_loopw [11] (fun v wr => UnR s.data.toList k w v wr) (fun v _ => 8 - (intOf v).toNat)
  case atStart => exact HST.out
  case round =>
    clear HST
    obtain ⟨j, rfl, hj, hno, hblk, hB⟩ := hrel
    have HNO := Lib.hid hno
    have HBK := Lib.hid hblk
    have HB := Lib.hid hB
    have hgl : w.heap.size < wr.heap.size := (Array.getElem?_eq_some_iff.1 hblk).1
    clear hno hblk hB
    by_cases hj8 : j < 8
    · have hjF : j < F.size := by omega
      have hj8' : (j : Int) < 8 := by omega
      have hj0 : (0 : Int) ≤ (j : Int) := by omega
      have hkk : (0 : Int) ≤ (k : Int) + 1 := by omega
      have hxj := HX.out j hjF
      by_cases hit : nb (plaL.getD j 0) = at0 s.data.toList (k + 1)
      · have qq : ((s[k + 1].toNat : Int) == (F[j].toNat : Int)) = true := by rw [HBI.out, hxj, hit]; simp
        have hesc := pla_esc ⟨j, hj8⟩
        have hbd := mea_bd ⟨j, hj8⟩
        simp only at hesc hbd
        rw [hit] at hesc
        have HR : Hid (backL s.data.toList k = ([UInt8.ofNat (meaI.getD j 0).toNat], 2)) := by
          show backL s.data.toList k = _
          unfold backL
          rw [if_neg (by rw [← hl.out]; omega), if_pos (by rw [hesc]; exact hbd.1), hesc]
        have HC : Hid (wr.cell? ⟨w.heap.size, j, none⟩ = some (.int .u8 (meaI.getD j 0))) := (Ut.blk_cell HBK.out j).trans (mea_at j hj8)
        have HBD := Lib.hid hbd
        clear hxj hit hesc hbd
        go_wp2
        go_quiet (fail)
        go_wp2
        go_ret2
        exact unp_yes 2 (by rw [HR.out]) (by decide) w.heap.size j 1 (8 - j) (by rw [HR.out]; rfl) rfl (by exact hgl) (by rw [HR.out]; exact bts_one HC.out HBD.out.1 HBD.out.2) (below_drewN HB.out _)
      · have qq : ((s[k + 1].toNat : Int) == (F[j].toNat : Int)) = false := by rw [HBI.out, hxj]; simpa using fun g => hit g.symm
        have HIT := Lib.hid hit
        clear hxj hit
        go_wp2
        go_quiet (fail)
        go_wp2
        go_roundw
        case rel =>
          refine ⟨j + 1, by go_num, by omega, fun t ht => ?_, HBK.out, below_drewN HB.out _⟩
          by_cases e : t = j
          · subst e; exact HIT.out
          · exact HNO.out t (by omega)
        case measure => simp [intOf]; omega
    · have hj9 : j = 8 := by omega
      subst hj9
      have HES : Hid (escI (at0 s.data.toList (k + 1)) = -1) := pla_no _ HNO.out
      have HBA : Hid (backL s.data.toList k = if at0 s.data.toList (k + 1) ≠ 117 ∨ hexA s.data.toList (k + 2) < 0 then ([], 0)
          else if (55296 ≤ hexA s.data.toList (k + 2) ∧ hexA s.data.toList (k + 2) < 56320) ∧ k + 7 < s.data.toList.length ∧ at0 s.data.toList (k + 6) = 92 ∧ at0 s.data.toList (k + 7) = 117 ∧ 56320 ≤ hexA s.data.toList (k + 8) ∧ hexA s.data.toList (k + 8) < 57344
            then (bl (Ut.putI (65536 + (hexA s.data.toList (k + 2) - 55296) * 1024 + hexA s.data.toList (k + 8) - 56320)), 12)
          else if Ut.isR (hexA s.data.toList (k + 2)) = true then (bl (Ut.putI (hexA s.data.toList (k + 2))), 6) else ([], 0)) := by
        show backL s.data.toList k = _
        unfold backL
        rw [if_neg (by rw [← hl.out]; omega), if_neg (by rw [HES.out]; decide)]
      have HV := Lib.hid (hexr_c s (k + 2) wr hs (by omega))
      have ec : ((k + 2 : Nat) : Int) = (k : Int) + 2 := by omega
      rw [ec] at HV
      have hvb := hexA_bd s.data.toList (k + 2)
      clear ec HNO HES HX
      have hsl : (s.size : Int) ≤ 1000 := by omega
      by_cases h117 : at0 s.data.toList (k + 1) = 117
      rotate_left
      · have q7 : ((s[k + 1].toNat : Int) != 117) = true := by rw [bne, byte_q s (k + 1) hk2, decide_eq_false h117]; rfl
        have HR : Hid (backL s.data.toList k = ([], 0)) := by show backL s.data.toList k = _; rw [HBA.out, if_pos (.inl h117)]
        clear HBA h117
        revert HV hvb
        generalize hexA s.data.toList (k + 2) = v
        intro HV hvb
        go_wp2_with (go_at_call 53; refine HV.out.mono ?_; rintro e w1 ⟨rfl, hb1⟩; have HB1 := Lib.hid hb1; clear hb1)
        go_ret2
        exact unp_no (by rw [HR.out]) ⟨rfl, HB.out.trans (HB1.out.mono HB.out.size)⟩
      have q7 : ((s[k + 1].toNat : Int) != 117) = false := by rw [bne, byte_q s (k + 1) hk2, h117]; rfl
      by_cases hv0 : hexA s.data.toList (k + 2) < 0
      · have HR : Hid (backL s.data.toList k = ([], 0)) := by show backL s.data.toList k = _; rw [HBA.out, if_pos (.inr hv0)]
        clear HBA h117
        revert HV hvb hv0
        generalize hexA s.data.toList (k + 2) = v
        intro HV hvb hv0
        go_wp2_with (go_at_call 53; refine HV.out.mono ?_; rintro e w1 ⟨rfl, hb1⟩; have HB1 := Lib.hid hb1; clear hb1)
        go_ret2
        exact unp_no (by rw [HR.out]) ⟨rfl, HB.out.trans (HB1.out.mono HB.out.size)⟩
      have HBA2 := HBA.out
      rw [if_neg (fun g => by rcases g with g | g; exact g h117; exact hv0 g), ← hl.out] at HBA2
      have HBB := Lib.hid HBA2
      have hir := isR_hex (v := hexA s.data.toList (k + 2)) (by omega) hvb.2
      clear HBA HBA2 h117
      by_cases hp : 55296 ≤ hexA s.data.toList (k + 2) ∧ hexA s.data.toList (k + 2) < 56320
      · have hirF : Ut.isR (hexA s.data.toList (k + 2)) = false := by rw [hir, decide_eq_false_iff_not]; omega
        have HIS := Lib.hid (fun W => Ut.is_r (hexA s.data.toList (k + 2)) W)
        rw [hirF] at HIS
        obtain ⟨hp1, hp2⟩ := hp
        have hd1 : decide (55296 ≤ hexA s.data.toList (k + 2)) = true := by simpa using hp1
        have hd2 : decide (hexA s.data.toList (k + 2) < 56320) = true := by simpa using hp2
        have NOR : Hid (¬ ((55296 ≤ hexA s.data.toList (k + 2) ∧ hexA s.data.toList (k + 2) < 56320) ∧ k + 7 < s.size ∧ at0 s.data.toList (k + 6) = 92 ∧ at0 s.data.toList (k + 7) = 117 ∧ 56320 ≤ hexA s.data.toList (k + 8) ∧ hexA s.data.toList (k + 8) < 57344) → backL s.data.toList k = ([], 0)) := fun g => by
          rw [HBB.out, if_neg g, hirF]; rfl
        clear hirF hir
        by_cases h7 : k + 7 < s.size
        · have h7' : (k : Int) + 7 < (s.size : Int) := by omega
          by_cases h6 : at0 s.data.toList (k + 6) = 92
          · have q6 : ((s[k + 6].toNat : Int) == 92) = true := by rw [byte_q s (k + 6) (by omega), h6]; rfl
            by_cases h77 : at0 s.data.toList (k + 7) = 117
            · have q77 : ((s[k + 7].toNat : Int) == 117) = true := by rw [byte_q s (k + 7) (by omega), h77]; rfl
              have HU := Lib.hid (fun W => hexr_c s (k + 8) W hs (by omega))
              have ec : ((k + 8 : Nat) : Int) = (k : Int) + 8 := by omega
              rw [ec] at HU
              have hub := hexA_bd s.data.toList (k + 8)
              by_cases hu : 56320 ≤ hexA s.data.toList (k + 8) ∧ hexA s.data.toList (k + 8) < 57344
              · have HR : Hid (backL s.data.toList k = (bl (Ut.putI (65536 + (hexA s.data.toList (k + 2) - 55296) * 1024 + hexA s.data.toList (k + 8) - 56320)), 12)) := by
                  show backL s.data.toList k = _
                  rw [HBB.out, if_pos ⟨⟨hp1, hp2⟩, h7, h6, h77, hu⟩]
                obtain ⟨hu1, hu2⟩ := hu
                have hrr : Ut.isR (65536 + (hexA s.data.toList (k + 2) - 55296) * 1024 + hexA s.data.toList (k + 8) - 56320) = true := by unfold Ut.isR; rw [decide_eq_true_eq]; omega
                have HP := Lib.hid (fun W => Ut.put_r (65536 + (hexA s.data.toList (k + 2) - 55296) * 1024 + hexA s.data.toList (k + 8) - 56320) W hrr)
                have hdu1 : decide (56320 ≤ hexA s.data.toList (k + 8)) = true := by simpa using hu1
                have HPB := Lib.hid (Ut.putI_byt _ hrr)
                clear hrr ec NOR HBB HIS h6 h77
                revert HV hvb hv0 hp1 hp2 hd1 hd2 HU hub HR hu1 hu2 HP hdu1 HPB
                generalize hexA s.data.toList (k + 2) = v
                generalize hexA s.data.toList (k + 8) = u
                intro HV hvb hv0 hp1 hp2 hd1 hd2 HU hub HR hu1 hu2 HP hdu1 HPB
                go_wp2_with fail
                refine HV.out.mono ?_
                rintro e w1 ⟨rfl, hb1⟩
                have HB1 := Lib.hid hb1
                clear hb1
                go_wp2_with fail
                refine (HU.out _).mono ?_
                rintro e w2 ⟨rfl, hb2⟩
                have HB2 := Lib.hid hb2
                clear hb2
                go_wp2_with fail
                refine (HP.out _).mono ?_
                rintro e w3 ⟨g, cap, rfl, hc1, hc2, hg, hbt, hb3⟩
                have HB3 := Lib.hid hb3
                have HBT := Lib.hid hbt
                clear hb3 hbt
                go_wp2
                go_ret2
                have hB1 := HB.out.trans (HB1.out.mono HB.out.size)
                have hB2 := hB1.trans (HB2.out.mono hB1.size)
                exact unp_yes 12 (by rw [HR.out]) (by decide) g 0 _ cap (by rw [HR.out, bl_len]) rfl hg (by rw [HR.out, nl_bl HPB.out]; exact HBT.out) (hB2.trans (HB3.out.mono hB2.size))
              · have HR : Hid (backL s.data.toList k = ([], 0)) := NOR.out fun g => hu g.2.2.2.2
                have hcase : hexA s.data.toList (k + 8) < 56320 ∨ (56320 ≤ hexA s.data.toList (k + 8) ∧ 57344 ≤ hexA s.data.toList (k + 8)) := by omega
                clear ec NOR HBB h6 h77 hu
                revert HV hvb hv0 hp1 hp2 hd1 hd2 HU hub HIS hcase
                generalize hexA s.data.toList (k + 2) = v
                generalize hexA s.data.toList (k + 8) = u
                intro HV hvb hv0 HIS hp1 hp2 hd1 hd2 HU hub hcase
                rcases hcase with hu1 | ⟨hu1, hu2⟩
                · have hdu1 : decide (56320 ≤ u) = false := by simpa using hu1
                  go_wp2_with fail
                  refine HV.out.mono ?_
                  rintro e w1 ⟨rfl, hb1⟩
                  have HB1 := Lib.hid hb1
                  clear hb1
                  go_wp2_with fail
                  refine (HU.out _).mono ?_
                  rintro e w2 ⟨rfl, hb2⟩
                  have HB2 := Lib.hid hb2
                  clear hb2
                  go_wp2_with (go_at_call 55; refine (HIS.out _).mono ?_; rintro e w' ⟨rfl, rfl⟩)
                  go_ret2
                  have hB1 := HB.out.trans (HB1.out.mono HB.out.size)
                  exact unp_no (by rw [HR.out]) ⟨rfl, hB1.trans (HB2.out.mono hB1.size)⟩
                · have hdu1 : decide (56320 ≤ u) = true := by simpa using hu1
                  have hu2' : ¬ u < 57344 := by omega
                  have hdu2 : decide (u < 57344) = false := by simpa using hu2
                  go_wp2_with fail
                  refine HV.out.mono ?_
                  rintro e w1 ⟨rfl, hb1⟩
                  have HB1 := Lib.hid hb1
                  clear hb1
                  go_wp2_with fail
                  refine (HU.out _).mono ?_
                  rintro e w2 ⟨rfl, hb2⟩
                  have HB2 := Lib.hid hb2
                  clear hb2
                  go_wp2_with (go_at_call 55; refine (HIS.out _).mono ?_; rintro e w' ⟨rfl, rfl⟩)
                  go_ret2
                  have hB1 := HB.out.trans (HB1.out.mono HB.out.size)
                  exact unp_no (by rw [HR.out]) ⟨rfl, hB1.trans (HB2.out.mono hB1.size)⟩
            · have q77 : ((s[k + 7].toNat : Int) == 117) = false := by rw [byte_q s (k + 7) (by omega), decide_eq_false h77]
              have HR : Hid (backL s.data.toList k = ([], 0)) := NOR.out fun g => h77 g.2.2.2.1
              clear NOR HBB h6 h77
              revert HV hvb hv0 hp1 hp2 hd1 hd2 HIS
              generalize hexA s.data.toList (k + 2) = v
              intro HV hvb hv0 HIS hp1 hp2 hd1 hd2
              go_wp2_with fail
              refine HV.out.mono ?_
              rintro e w1 ⟨rfl, hb1⟩
              have HB1 := Lib.hid hb1
              clear hb1
              go_wp2_with (go_at_call 55; refine (HIS.out _).mono ?_; rintro e w' ⟨rfl, rfl⟩)
              go_ret2
              exact unp_no (by rw [HR.out]) ⟨rfl, HB.out.trans (HB1.out.mono HB.out.size)⟩
          · have q6 : ((s[k + 6].toNat : Int) == 92) = false := by rw [byte_q s (k + 6) (by omega), decide_eq_false h6]
            have HR : Hid (backL s.data.toList k = ([], 0)) := NOR.out fun g => h6 g.2.2.1
            clear NOR HBB h6
            revert HV hvb hv0 hp1 hp2 hd1 hd2 HIS
            generalize hexA s.data.toList (k + 2) = v
            intro HV hvb hv0 HIS hp1 hp2 hd1 hd2
            go_wp2_with fail
            refine HV.out.mono ?_
            rintro e w1 ⟨rfl, hb1⟩
            have HB1 := Lib.hid hb1
            clear hb1
            go_wp2_with (go_at_call 55; refine (HIS.out _).mono ?_; rintro e w' ⟨rfl, rfl⟩)
            go_ret2
            exact unp_no (by rw [HR.out]) ⟨rfl, HB.out.trans (HB1.out.mono HB.out.size)⟩
        · have h7' : ¬ (k : Int) + 7 < (s.size : Int) := by omega
          have hd7 : decide ((k : Int) + 7 < (s.size : Int)) = false := by simpa using h7'
          have HR : Hid (backL s.data.toList k = ([], 0)) := NOR.out fun g => h7 g.2.1
          clear NOR HBB
          revert HV hvb hv0 hp1 hp2 hd1 hd2 HIS
          generalize hexA s.data.toList (k + 2) = v
          intro HV hvb hv0 HIS hp1 hp2 hd1 hd2
          go_wp2_with fail
          refine HV.out.mono ?_
          rintro e w1 ⟨rfl, hb1⟩
          have HB1 := Lib.hid hb1
          clear hb1
          go_wp2_with (go_at_call 55; refine (HIS.out _).mono ?_; rintro e w' ⟨rfl, rfl⟩)
          go_ret2
          exact unp_no (by rw [HR.out]) ⟨rfl, HB.out.trans (HB1.out.mono HB.out.size)⟩
      · have hNP : ¬ ((55296 ≤ hexA s.data.toList (k + 2) ∧ hexA s.data.toList (k + 2) < 56320) ∧ k + 7 < s.size ∧ at0 s.data.toList (k + 6) = 92 ∧ at0 s.data.toList (k + 7) = 117 ∧ 56320 ≤ hexA s.data.toList (k + 8) ∧ hexA s.data.toList (k + 8) < 57344) := fun g => hp g.1
        have hBC := HBB.out
        rw [if_neg hNP] at hBC
        have HBC := Lib.hid hBC
        have HIS := Lib.hid (fun W => Ut.is_r (hexA s.data.toList (k + 2)) W)
        have HPT := Lib.hid (fun W hr => Ut.put_r (hexA s.data.toList (k + 2)) W hr)
        have HPB := Lib.hid (fun hr => Ut.putI_byt (hexA s.data.toList (k + 2)) hr)
        have hcase : (hexA s.data.toList (k + 2) < 55296) ∨ (55296 ≤ hexA s.data.toList (k + 2) ∧ 56320 ≤ hexA s.data.toList (k + 2)) := by omega
        clear hBC hNP HBB hir hp
        revert HV hvb hv0 HIS HPT HBC hcase HPB
        generalize hexA s.data.toList (k + 2) = v
        intro HV hvb hv0 HBC HIS HPT HPB hcase
        rcases hcase with h1 | ⟨h1, h2⟩
        · have hd1 : decide (55296 ≤ v) = false := by simpa using h1
          cases hr : Ut.isR v with
          | true =>
            rw [hr] at HIS
            have HP := Lib.hid (fun W => HPT.out W hr)
            have HPB2 := Lib.hid (HPB.out hr)
            have HR : Hid (backL s.data.toList k = (bl (Ut.putI v), 6)) := by show backL s.data.toList k = _; rw [HBC.out, if_pos hr]
            clear HBC hr HPT HPB
            go_wp2_with fail
            refine HV.out.mono ?_
            rintro e w1 ⟨rfl, hb1⟩
            have HB1 := Lib.hid hb1
            clear hb1
            go_wp2_with (first | (go_at_call 55; refine (HIS.out _).mono ?_; rintro e w' ⟨rfl, rfl⟩) | (go_at_call 54; refine (HP.out _).mono ?_; rintro e w3 ⟨g, cap, rfl, hc1, hc2, hg, hbt, hb3⟩; have HB3 := Lib.hid hb3; have HBT := Lib.hid hbt; clear hb3 hbt))
            go_ret2
            have hB1 := HB.out.trans (HB1.out.mono HB.out.size)
            exact unp_yes 6 (by rw [HR.out]) (by decide) g 0 _ cap (by rw [HR.out, bl_len]) rfl hg (by rw [HR.out, nl_bl HPB2.out]; exact HBT.out) (hB1.trans (HB3.out.mono hB1.size))
          | false =>
            rw [hr] at HIS
            have HR : Hid (backL s.data.toList k = ([], 0)) := by show backL s.data.toList k = _; rw [HBC.out, if_neg (by rw [hr]; decide)]
            clear HBC hr HPT HPB
            go_wp2_with fail
            refine HV.out.mono ?_
            rintro e w1 ⟨rfl, hb1⟩
            have HB1 := Lib.hid hb1
            clear hb1
            go_wp2_with (go_at_call 55; refine (HIS.out _).mono ?_; rintro e w' ⟨rfl, rfl⟩)
            go_ret2
            exact unp_no (by rw [HR.out]) ⟨rfl, HB.out.trans (HB1.out.mono HB.out.size)⟩
        · have hd1 : decide (55296 ≤ v) = true := by simpa using h1
          have h2' : ¬ v < 56320 := by omega
          have hd2 : decide (v < 56320) = false := by simpa using h2
          cases hr : Ut.isR v with
          | true =>
            rw [hr] at HIS
            have HP := Lib.hid (fun W => HPT.out W hr)
            have HPB2 := Lib.hid (HPB.out hr)
            have HR : Hid (backL s.data.toList k = (bl (Ut.putI v), 6)) := by show backL s.data.toList k = _; rw [HBC.out, if_pos hr]
            clear HBC hr HPT HPB
            go_wp2_with fail
            refine HV.out.mono ?_
            rintro e w1 ⟨rfl, hb1⟩
            have HB1 := Lib.hid hb1
            clear hb1
            go_wp2_with (first | (go_at_call 55; refine (HIS.out _).mono ?_; rintro e w' ⟨rfl, rfl⟩) | (go_at_call 54; refine (HP.out _).mono ?_; rintro e w3 ⟨g, cap, rfl, hc1, hc2, hg, hbt, hb3⟩; have HB3 := Lib.hid hb3; have HBT := Lib.hid hbt; clear hb3 hbt))
            go_ret2
            have hB1 := HB.out.trans (HB1.out.mono HB.out.size)
            exact unp_yes 6 (by rw [HR.out]) (by decide) g 0 _ cap (by rw [HR.out, bl_len]) rfl hg (by rw [HR.out, nl_bl HPB2.out]; exact HBT.out) (hB1.trans (HB3.out.mono hB1.size))
          | false =>
            rw [hr] at HIS
            have HR : Hid (backL s.data.toList k = ([], 0)) := by show backL s.data.toList k = _; rw [HBC.out, if_neg (by rw [hr]; decide)]
            clear HBC hr HPT HPB
            go_wp2_with fail
            refine HV.out.mono ?_
            rintro e w1 ⟨rfl, hb1⟩
            have HB1 := Lib.hid hb1
            clear hb1
            go_wp2_with (go_at_call 55; refine (HIS.out _).mono ?_; rintro e w' ⟨rfl, rfl⟩)
            go_ret2
            exact unp_no (by rw [HR.out]) ⟨rfl, HB.out.trans (HB1.out.mono HB.out.size)⟩
theorem unit_r (s : ByteArray) (k : Nat) (w : World) (hs : s.size ≤ 1000) (hk : k < s.size) : Calls Tryz.prog 44 #[.string s, .int .i64 (k : Int)] w (UnP (unitL s.data.toList k) w) := by
  by_cases h : at0 s.data.toList k < 32 ∨ at0 s.data.toList k = 34
  · exact unitr_low s k w hs hk h
  · by_cases h2 : at0 s.data.toList k = 92
    · exact unitr_back s k w hs hk h2
    · exact unitr_rune s k w hs hk h h2
end Go.Proofs.YtpgllcdcpdeicaaGreatDoor.Jt
