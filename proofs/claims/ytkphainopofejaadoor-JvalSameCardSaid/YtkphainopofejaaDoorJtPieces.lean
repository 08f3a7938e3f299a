/- Contracts of package jtok's escaped and piece: what a part of a text in quotes stands for, and where it ends; for every text of at most a thousand bytes; where the tables lie as the program's text lays them. -/
import Derived.Test.YtkphainopofejaaDoorJtEscs
import Derived.Deep.QuietTactic
import Derived.BigQuiet
import Derived.Deep.RegionHeld3
namespace Go.Proofs.YtkphainopofejaaDoor.Jt
open Go.RowKit
set_option linter.unusedSimpArgs false
set_option linter.unusedVariables false

def behL : List UInt8 := [34, 92, 98, 102, 110, 114, 116]
def meaL : List UInt8 := [34, 92, 8, 12, 10, 13, 9]
theorem esc_all : ∀ n : Fin 256, decide (0 ≤ Lib.indexByte behL (UInt8.ofNat n.val)) = (decide (0 ≤ escI (n.val : Int)) && decide ((n.val : Int) ≠ 47)) := by decide +kernel
theorem esc_mea : ∀ n : Fin 256, decide (0 ≤ Lib.indexByte behL (UInt8.ofNat n.val)) = true → decide (Lib.indexByte behL (UInt8.ofNat n.val) < 7) = true ∧ (meaL.drop (Lib.indexByte behL (UInt8.ofNat n.val)).toNat).take 1 = [UInt8.ofNat (escI (n.val : Int)).toNat] := by decide +kernel
theorem esc_idx (c : UInt8) : (∃ i : Nat, i < 7 ∧ Lib.indexByte behL c = (i : Int) ∧ 0 ≤ escI (nb c) ∧ (meaL.drop i).take 1 = [UInt8.ofNat (escI (nb c)).toNat]) ∨ (Lib.indexByte behL c < 0 ∧ (nb c = 47 ∨ escI (nb c) < 0)) := by
  have h1 := esc_all ⟨c.toNat, c.toNat_lt⟩
  have h2 := esc_mea ⟨c.toNat, c.toNat_lt⟩
  have e : UInt8.ofNat c.toNat = c := by simp
  simp only [e] at h1 h2
  have en : ((c.toNat : Nat) : Int) = nb c := rfl
  rw [en] at h1 h2
  by_cases h : 0 ≤ Lib.indexByte behL c
  · left
    obtain ⟨a, b⟩ := h2 (by simpa using h)
    rw [decide_eq_true_eq] at a
    rw [decide_eq_true h] at h1
    have h3 := h1.symm
    rw [Bool.and_eq_true, decide_eq_true_eq, decide_eq_true_eq] at h3
    exact ⟨(Lib.indexByte behL c).toNat, by omega, by omega, h3.1, b⟩
  · right
    rw [decide_eq_false h] at h1
    refine ⟨by omega, ?_⟩
    by_cases h4 : nb c = 47
    · exact .inl h4
    · right
      rw [decide_eq_true (p := nb c ≠ 47) h4, Bool.and_true] at h1
      have := of_decide_eq_false h1.symm
      omega
theorem mea_sub (i : Nat) (x : UInt8) (h : (meaL.drop i).take 1 = [x]) : (ByteArray.mk #[34, 92, 8, 12, 10, 13, 9]).extract i (i + 1) = mkS [x] := mkS_of (by
  rw [Lib.extract_data, show i + 1 - i = 1 by omega]; exact h)
theorem byte_back (c : UInt8) : (nb c).toNat.toUInt8 = c := by unfold nb; simp
theorem t3 {a b : ByteArray} {k j : Int} {x y : Bool} (h1 : a = b) (h2 : k = j) (h3 : x = y) : Ending.returned (.tuple #[.string a, .int .i64 k, .bool x]) = tup3 b j y := by subst h1 h2 h3; rfl
set_option maxRecDepth 100000 in
set_option maxHeartbeats 4000000 in
theorem escaped_c (s : ByteArray) (k : Nat) (w : World) (hT : Ut.Tabs w) (hs : s.size ≤ 1000) (hk : k < s.size) (h2 : at0 s.data.toList k = 92) :
    Calls Tryd.prog 63 #[.string s, .int .i64 (k : Int)] w (PcP k (backL s.data.toList k) w) := by
  by_cases hk1 : k + 1 = s.size
  · have HB : Hid (backL s.data.toList k = ([], 0)) := by show backL s.data.toList k = _; unfold backL; rw [if_pos (by rw [← size_l]; omega)]
    have q : ((k : Int) + 1 == (s.size : Int)) = true := by simp; omega
    clear h2 hT
    go_enter Tryd.func63, Tryd.ntmps63
    go_wp2
    go_ret3
    exact pcp_no (by rw [HB.out]) ⟨⟨_, _, rfl⟩, Below.refl _ _⟩
  · have q : ((k : Int) + 1 == (s.size : Int)) = false := by simp; omega
    have hk2 : k + 1 < s.size := by omega
    have hk2' : (k : Int) + 1 < (s.size : Int) := by omega
    have hb := byte_i s (k + 1) hk2
    by_cases hu : at0 s.data.toList (k + 1) = 117
    · have qu : ((s[k + 1].toNat : Int) == 117) = true := by rw [byte_q s (k + 1) hk2, hu]; rfl
      have HE := Lib.hid (esr_c s k w hT hs hk2 h2 hu)
      clear hb h2 hu hT hk1
      go_enter Tryd.func63, Tryd.ntmps63
      go_wp2_with fail
      refine HE.out.mono ?_
      rintro e w1 hp
      unfold PcP at hp
      by_cases hz : (backL s.data.toList k).2 = 0
      · rw [if_pos hz] at hp
        obtain ⟨⟨t, j, rfl⟩, hb1⟩ := hp
        have HZ := Lib.hid hz
        have HB1 := Lib.hid hb1
        clear hz hb1
        unfold tup3
        go_wp2
        go_ret3
        exact pcp_no HZ.out ⟨⟨_, _, rfl⟩, HB1.out⟩
      · rw [if_neg hz] at hp
        obtain ⟨rfl, hb1⟩ := hp
        have HZ := Lib.hid hz
        have HB1 := Lib.hid hb1
        clear hz hb1
        unfold tup3
        go_wp2
        go_ret3
        exact pcp_yes rfl HZ.out ⟨rfl, HB1.out⟩
    · have qu : ((s[k + 1].toNat : Int) == 117) = false := by rw [byte_q s (k + 1) hk2, decide_eq_false hu]
      have HI := Lib.hid (fun W => Ch.idx_c ⟨#[34, 92, 98, 102, 110, 114, 116]⟩ (s[k + 1].toNat : Int) W)
      have hd : (ByteArray.mk #[34, 92, 98, 102, 110, 114, 116]).data.toList = behL := rfl
      have hl : k + 1 < s.data.toList.length := by rw [← size_l]; exact hk2
      have hbb : ((s[k + 1].toNat : Nat) : Int).toNat.toUInt8 = s.data.toList[k + 1] := by rw [← data_at hk2 hl]; exact byte_back _
      rw [hd, hbb] at HI
      have hat : at0 s.data.toList (k + 1) = nb s.data.toList[k + 1] := at0_get hl
      have hB1 : backL s.data.toList k = if 0 ≤ escI (nb s.data.toList[k + 1]) then ([UInt8.ofNat (escI (nb s.data.toList[k + 1])).toNat], 2) else ([], 0) := by
        unfold backL
        rw [if_neg (by omega), hat]
        by_cases g : 0 ≤ escI (nb s.data.toList[k + 1])
        · rw [if_pos g, if_pos g]
        · rw [if_neg g, if_neg g, if_pos (.inl (by rw [← hat]; exact hu))]
      have q47 : ((s[k + 1].toNat : Int) == 47) = decide (nb s.data.toList[k + 1] = 47) := by rw [byte_q s (k + 1) hk2, hat]
      rcases esc_idx s.data.toList[k + 1] with ⟨i, hi, hidx, hpos, hm⟩ | ⟨hneg, hcase⟩
      · rw [hidx] at HI
        rw [if_pos hpos] at hB1
        have HB := Lib.hid hB1
        have HM := Lib.hid (mea_sub i _ hm)
        clear hB1 hm hidx hpos q47 hat hbb hd hb hu h2 hT hk1
        have hi' : (i : Int) < 7 := by omega
        have hi0 : (0 : Int) ≤ (i : Int) := by omega
        go_enter Tryd.func63, Tryd.ntmps63
        go_wp2_with (go_at_call 70; refine (HI.out _).mono ?_; rintro e w' ⟨rfl, rfl⟩)
        go_ret3
        exact pcp_yes (n := 2) (by rw [HB.out]) (by decide) ⟨t3 (by rw [HB.out, HM.out]) rfl rfl, Below.refl _ _⟩
      · revert HI hneg
        generalize Lib.indexByte behL s.data.toList[k + 1] = z
        intro HI hneg
        by_cases h47 : nb s.data.toList[k + 1] = 47
        · have HB : Hid (backL s.data.toList k = ([47], 2)) := by
            show backL s.data.toList k = _
            rw [hB1, h47]; rfl
          rw [decide_eq_true h47] at q47
          clear hB1 hcase h47 hat hbb hd hb hu h2 hT hk1
          go_enter Tryd.func63, Tryd.ntmps63
          go_wp2_with (go_at_call 70; refine (HI.out _).mono ?_; rintro e w' ⟨rfl, rfl⟩)
          go_ret3
          exact pcp_yes (n := 2) (by rw [HB.out]) (by decide) ⟨t3 (by rw [HB.out]; rfl) rfl rfl, Below.refl _ _⟩
        · have HB : Hid (backL s.data.toList k = ([], 0)) := by
            show backL s.data.toList k = _
            rw [hB1, if_neg (by rcases hcase with g | g; exact absurd g h47; omega)]
          rw [decide_eq_false h47] at q47
          clear hB1 hcase h47 hat hbb hd hb hu h2 hT hk1
          go_enter Tryd.func63, Tryd.ntmps63
          go_wp2_with (go_at_call 70; refine (HI.out _).mono ?_; rintro e w' ⟨rfl, rfl⟩)
          go_ret3
          exact pcp_no (by rw [HB.out]) ⟨⟨_, _, rfl⟩, Below.refl _ _⟩
set_option maxRecDepth 100000 in
set_option maxHeartbeats 4000000 in
theorem piece_c (s : ByteArray) (k : Nat) (w : World) (hT : Ut.Tabs w) (hs : s.size ≤ 1000) (hk : k < s.size) :
    Calls Tryd.prog 56 #[.string s, .int .i64 (k : Int)] w (PcP k (pieceL s.data.toList k) w) := by
  have hk' : (k : Int) < (s.size : Int) := by omega
  by_cases h2 : at0 s.data.toList k = 92
  · have q : ((s[k].toNat : Int) == 92) = true := by rw [byte_q s k hk, h2]; rfl
    have HE := Lib.hid (escaped_c s k w hT hs hk h2)
    have hP : pieceL s.data.toList k = backL s.data.toList k := by unfold pieceL; rw [if_pos h2]
    rw [← hP] at HE
    clear h2 hT hP
    go_enter Tryd.func56, Tryd.ntmps56
    go_wp2_with fail
    refine HE.out.mono ?_
    rintro e w1 hp
    unfold PcP at hp
    by_cases hz : (pieceL s.data.toList k).2 = 0
    · rw [if_pos hz] at hp
      obtain ⟨⟨t, j, rfl⟩, hb1⟩ := hp
      have HZ := Lib.hid hz
      have HB1 := Lib.hid hb1
      clear hz hb1
      unfold tup3
      go_wp2
      go_ret3
      exact pcp_no HZ.out ⟨⟨_, _, rfl⟩, HB1.out⟩
    · rw [if_neg hz] at hp
      obtain ⟨rfl, hb1⟩ := hp
      have HZ := Lib.hid hz
      have HB1 := Lib.hid hb1
      clear hz hb1
      unfold tup3
      go_wp2
      go_ret3
      exact pcp_yes rfl HZ.out ⟨rfl, HB1.out⟩
  · have q : ((s[k].toNat : Int) == 92) = false := by rw [byte_q s k hk, decide_eq_false h2]
    have HR := Lib.hid (fun W => rowpln_c s k W hs (by omega))
    have h1 := endP_ge plnB s.data.toList k
    have h3 : endP plnB s.data.toList k ≤ s.size := by rw [size_l]; exact endP_le (by rw [← size_l]; omega)
    have hz : (s.extract k (endP plnB s.data.toList k)).size ≤ 1000 := by rw [ByteArray.size_extract]; omega
    have HV := Lib.hid (fun W hTW => valid_c (s.extract k (endP plnB s.data.toList k)) W hTW hz)
    rw [extract_cut] at HV
    have HP : Hid (pieceL s.data.toList k = if k < endP plnB s.data.toList k ∧ vldB (cutL s.data.toList k (endP plnB s.data.toList k)) = true then (cutL s.data.toList k (endP plnB s.data.toList k), endP plnB s.data.toList k - k) else ([], 0)) := by
      show pieceL s.data.toList k = _
      unfold pieceL; rw [if_neg h2]
    have HX := Lib.hid (extract_cut s k (endP plnB s.data.toList k))
    clear h2 hz
    revert HR h1 h3 HV HP HX
    generalize vldB (cutL s.data.toList k (endP plnB s.data.toList k)) = v
    generalize endP plnB s.data.toList k = to
    intro HR h1 h3 HV HP HX
    have HT := Lib.hid hT
    clear hT
    have h1' : (k : Int) ≤ (to : Int) := by omega
    have h3' : (to : Int) ≤ (s.size : Int) := by omega
    by_cases hlt : k < to
    · have hlt' : (k : Int) < (to : Int) := by omega
      have hd : decide ((k : Int) < (to : Int)) = true := by simpa using hlt
      go_enter Tryd.func56, Tryd.ntmps56
      go_wp2_with (go_at_call 58; refine (HR.out _).mono ?_; rintro e w' ⟨rfl, rfl⟩)
      go_region_held3 (fun _ => True) (first | exact trivial) (first | (go_at_call 65; refine (HV.out _ HT.out.drew).mono ?_; rintro e w3 ⟨rfl, hb3⟩; have HB3 := Lib.hid hb3; clear hb3))
      go_wp2
      go_ret3
      have hB : Below w.heap.size w w3 := (Below.refl _ _).drew.trans HB3.out
      cases v with
      | true => exact pcp_yes (n := to - k) (by rw [HP.out, if_pos ⟨hlt, rfl⟩]) (by omega) ⟨t3 (by rw [HP.out, if_pos ⟨hlt, rfl⟩]; exact mkS_of HX.out) (by omega) rfl, hB⟩
      | false => exact pcp_no (by rw [HP.out, if_neg (fun g => by cases g.2)]) ⟨⟨_, _, rfl⟩, hB⟩
    · have hd : decide ((k : Int) < (to : Int)) = false := by simp; omega
      go_enter Tryd.func56, Tryd.ntmps56
      go_wp2_with (go_at_call 58; refine (HR.out _).mono ?_; rintro e w' ⟨rfl, rfl⟩)
      go_quiet (fail)
      go_wp2
      go_ret3
      exact pcp_no (by rw [HP.out, if_neg (fun g => hlt g.1)]) ⟨⟨_, _, rfl⟩, below_drewN (Below.refl _ _) _⟩
end Go.Proofs.YtkphainopofejaaDoor.Jt
