/- Contracts of package head's questions about a first line's parts, and of the library's strings.Split at one byte: for every text of at most a thousand bytes. -/
import Derived.Test.YtkblggpnghdnmaaGreatDoorHdTold
namespace Go.Proofs.YtkblggpnghdnmaaGreatDoor.Hd
open Go.RowKit Ch
set_option linter.unusedSimpArgs false
set_option linter.unusedVariables false

/-- the library's parts at one byte are the document's -/
theorem split_cutL (c : UInt8) : ∀ (k : Nat) (l : List UInt8), l.length ≤ k → Lib.splitK [c] 0 (Lib.count l [c]) l = Ch.cutL c l
  | 0, l, h => by
    have : l = [] := List.length_eq_zero_iff.1 (by omega)
    subst this
    rfl
  | k + 1, l, h => by
    by_cases hm : c ∈ l
    · obtain ⟨j, hj, hjl, hnm, hsp⟩ := Ch.idx_split l c ((Ch.idx_ge _ c).2 hm)
      have hcnt : Lib.count l [c] = Lib.count (l.drop (j + 1)) [c] + 1 := by
        rw [Lib.count_one, Lib.count_one]
        conv => lhs; rw [hsp]
        rw [List.count_append, List.count_cons_self, List.count_eq_zero_of_not_mem hnm]; omega
      rw [hcnt, Lib.splitK, Lib.index_one, hj, if_neg (by simp)]
      have ih := split_cutL c k (l.drop (j + 1)) (by rw [List.length_drop]; omega)
      have e2 : Ch.cutL c l = l.take j :: Ch.cutL c (l.drop (j + 1)) := by
        have := Ch.cutL_at c (l.take j) (l.drop (j + 1)) hnm
        rw [← hsp] at this; exact this
      rw [e2]
      simp only [Int.toNat_natCast, Nat.add_zero, List.length_singleton]
      rw [ih]
    · rw [Lib.count_one, List.count_eq_zero_of_not_mem hm, Lib.splitK, Ch.cutL_none c l hm]
def strsC (ps : List (List UInt8)) : Array Value := (ps.map (fun p => Value.string (mkS p))).toArray
theorem split_cells (c : UInt8) (s : ByteArray) : ((Lib.splitB ⟨#[c]⟩ 0 (Lib.countB s ⟨#[c]⟩) s).map Value.string).toArray = strsC (Ch.cutL c s.data.toList) := by
  have h := Lib.splitB_data ⟨#[c]⟩ 0 (Lib.countB s ⟨#[c]⟩) s
  have e := split_cutL c s.data.toList.length s.data.toList (Nat.le_refl _)
  have h2 : (Lib.splitB ⟨#[c]⟩ 0 (Lib.countB s ⟨#[c]⟩) s).map (·.data.toList) = Ch.cutL c s.data.toList := h.trans e
  unfold strsC
  rw [← h2, List.map_map]
  congr 1
theorem info9h : (Tryz.prog.info? 9).map (fun i => (i.zero, i.size, i.bytes)) = some (some (.string ByteArray.empty), 1, 16) := by kernel_rfl
set_option maxRecDepth 100000 in
set_option maxHeartbeats 2000000 in
theorem split_g (s : ByteArray) (c : UInt8) (w : World) (hs : s.size ≤ 1000) :
    Calls Tryz.prog 35 #[.string s, .string ⟨#[c]⟩] w fun e w' => e = .returned (.slice (some ⟨w.heap.size, 0, none⟩) (Ch.cutL c s.data.toList).length (Ch.cutL c s.data.toList).length) ∧ w' = w.alloc (.cells (strsC (Ch.cutL c s.data.toList)) 9) := by
  have h1 : 1 ≤ (ByteArray.mk #[c]).size := Nat.le_refl 1
  have hle := Lib.countB_le ⟨#[c]⟩ h1 s.size s (Nat.le_refl _)
  have hlen := Lib.splitB_all ⟨#[c]⟩ h1 0 _ s rfl
  have g := Any.strings_genSplit_core (P := Tryz.prog) (ρ := Tryz.lays146_ren) { Tryz.lays146 with } info9h s ⟨#[c]⟩ 0 (-1) (Lib.countB s ⟨#[c]⟩ + 1) w (by omega) h1 (Nat.zero_le _)
    (fun x d hx => by
      have := Any.strings_Index_one (P := Tryz.prog) (ρ := Tryz.lays146_ren) { Tryz.lays146 with } x c (w.alloc (.cells d (Tryz.lays146_ren.t 9)))
      rw [← Lib.index_one] at this; exact this)
    (by
      have := Any.strings_Count_one (P := Tryz.prog) (ρ := Tryz.lays146_ren) { Tryz.lays146 with } s c w
      unfold Lib.countByte at this
      rw [← Lib.count_one] at this
      exact this) (by decide) (by decide) (by rw [if_pos (by decide)]; omega)
  rw [Nat.add_sub_cancel, hlen] at g
  have e2 : Lib.cellsOf (Lib.splitB ⟨#[c]⟩ 0 (Lib.countB s ⟨#[c]⟩) s) (Lib.countB s ⟨#[c]⟩ + 1) = ((Lib.splitB ⟨#[c]⟩ 0 (Lib.countB s ⟨#[c]⟩) s).map Value.string).toArray := by rw [← hlen]; exact Lib.cellsOf_full _
  rw [e2, split_cells] at g
  have e3 : Lib.countB s ⟨#[c]⟩ + 1 = (Ch.cutL c s.data.toList).length := by
    have h4 := congrArg Array.size (split_cells c s)
    unfold strsC at h4
    simp only [List.size_toArray, List.length_map] at h4
    rw [← h4, hlen]
  rw [e3] at g
  have G := Lib.hid g
  clear g hle hlen e2 e3
  go_enter Tryz.func35, Tryz.ntmps35
  go_wp2_with (go_at_call 53; refine G.out.mono ?_; rintro e w' ⟨rfl, hw⟩; rw [hw])
  go_ret
  exact ⟨rfl, rfl⟩
def mthB (l : List UInt8) : Bool := !l.isEmpty && allU tokU l
set_option maxRecDepth 100000 in
set_option maxHeartbeats 1000000 in
theorem isM_g (s : ByteArray) (w : World) (hs : s.size ≤ 1000) : Calls Tryz.prog 36 #[.string s] w fun e w' => e = .returned (.bool (mthB s.data.toList)) ∧ w = w' := by
  have HA := Lib.hid (fun W => all_tok s W hs)
  have hem : s.toList.isEmpty = s.data.toList.isEmpty := by rw [Lib.toList_data]
  unfold mthB
  revert HA hem
  generalize allU tokU s.data.toList = q
  generalize s.data.toList.isEmpty = z
  intro HA hem
  cases z with
  | true =>
    show Calls _ _ _ _ fun e w' => e = .returned (.bool false) ∧ _
    go_enter Tryz.func36, Tryz.ntmps36
    go_wp2
    go_ret
    exact ⟨rfl, rfl⟩
  | false =>
    show Calls _ _ _ _ fun e w' => e = .returned (.bool q) ∧ _
    go_enter Tryz.func36, Tryz.ntmps36
    go_wp2_with fail
    refine (HA.out _).mono ?_
    rintro e w1 ⟨rfl, hw⟩
    rw [← hw]; clear hw
    go_wp2
    go_ret
    exact ⟨rfl, rfl⟩
def tgtB (l : List UInt8) : Bool := Lib.hasPrefix l [47] && allU visU l
set_option maxRecDepth 100000 in
set_option maxHeartbeats 1000000 in
theorem isT_g (s : ByteArray) (w : World) (hs : s.size ≤ 1000) : Calls Tryz.prog 37 #[.string s] w fun e w' => e = .returned (.bool (tgtB s.data.toList)) ∧ w = w' := by
  have HA := Lib.hid (fun W => all_vis s W hs)
  have HP := Lib.hid (fun W => hasP_c s ⟨#[47]⟩ W)
  rw [show (ByteArray.mk #[47]).data.toList = [47] from rfl] at HP
  unfold tgtB
  revert HA HP
  generalize allU visU s.data.toList = q
  generalize Lib.hasPrefix s.data.toList [47] = z
  intro HA HP
  cases z with
  | false =>
    show Calls _ _ _ _ fun e w' => e = .returned (.bool false) ∧ _
    go_enter Tryz.func37, Tryz.ntmps37
    go_wp2_with fail
    refine (HP.out _).mono ?_
    rintro e w1 ⟨rfl, hw⟩
    rw [hw]; clear hw
    go_wp2
    go_ret
    exact ⟨rfl, rfl⟩
  | true =>
    show Calls _ _ _ _ fun e w' => e = .returned (.bool q) ∧ _
    go_enter Tryz.func37, Tryz.ntmps37
    go_wp2_with fail
    refine (HP.out _).mono ?_
    rintro e w1 ⟨rfl, hw⟩
    rw [hw]; clear hw
    go_wp2_with fail
    refine (HA.out _).mono ?_
    rintro e w1 ⟨rfl, hw⟩
    rw [← hw]; clear hw
    go_wp2
    go_ret
    exact ⟨rfl, rfl⟩
def knwB (l : List UInt8) : Bool := decide (l = [71, 69, 84]) || decide (l = [80, 79, 83, 84]) || decide (l = [80, 85, 84]) || decide (l = [68, 69, 76, 69, 84, 69])
theorem beq_dec (a b : List UInt8) : (a == b) = decide (a = b) := by
  by_cases h : a = b
  · subst h; simp
  · rw [decide_eq_false h]; simpa using h
set_option maxRecDepth 100000 in
set_option maxHeartbeats 2000000 in
theorem known_g (s : ByteArray) (w : World) : Calls Tryz.prog 40 #[.string s] w fun e w' => e = .returned (.bool (knwB s.data.toList)) ∧ w = w' := by
  have h1 : (s.toList == [71, 69, 84]) = decide (s.data.toList = [71, 69, 84]) := by rw [Lib.toList_data]; exact beq_dec _ _
  have h2 : (s.toList == [80, 79, 83, 84]) = decide (s.data.toList = [80, 79, 83, 84]) := by rw [Lib.toList_data]; exact beq_dec _ _
  have h3 : (s.toList == [80, 85, 84]) = decide (s.data.toList = [80, 85, 84]) := by rw [Lib.toList_data]; exact beq_dec _ _
  have h4 : (s.toList == [68, 69, 76, 69, 84, 69]) = decide (s.data.toList = [68, 69, 76, 69, 84, 69]) := by rw [Lib.toList_data]; exact beq_dec _ _
  unfold knwB
  revert h1 h2 h3 h4
  generalize decide (s.data.toList = [71, 69, 84]) = a
  generalize decide (s.data.toList = [80, 79, 83, 84]) = b
  generalize decide (s.data.toList = [80, 85, 84]) = c
  generalize decide (s.data.toList = [68, 69, 76, 69, 84, 69]) = d
  intro h1 h2 h3 h4
  cases a <;> cases b <;> cases c <;> cases d
  all_goals
    go_enter Tryz.func40, Tryz.ntmps40
    go_wp2
    go_ret
    exact ⟨rfl, rfl⟩
def digU (c : UInt8) : Bool := digB (c.toNat : Int)
/-- a version's text of eight bytes -/
def verB (s : ByteArray) : Bool := if h : s.size = 8 then Lib.hasPrefix s.data.toList [72, 84, 84, 80, 47] && digU (s[5]'(by omega)) && decide ((s[6]'(by omega)) = 46) && digU (s[7]'(by omega)) else false
set_option maxRecDepth 100000 in
set_option maxHeartbeats 2000000 in
theorem isV_g (s : ByteArray) (w : World) : Calls Tryz.prog 38 #[.string s] w fun e w' => e = .returned (.bool (verB s)) ∧ w = w' := by
  have HP := Lib.hid (fun W => hasP_c s ⟨#[72, 84, 84, 80, 47]⟩ W)
  rw [show (ByteArray.mk #[72, 84, 84, 80, 47]).data.toList = [72, 84, 84, 80, 47] from rfl] at HP
  unfold verB
  by_cases h : s.size = 8
  · rw [dif_pos h]
    have h5 : 5 < s.size := by omega
    have h6 : 6 < s.size := by omega
    have h7 : 7 < s.size := by omega
    have h8 : ((s.size : Int) == 8) = true := by rw [h]; rfl
    have i5 : (5 : Int) < (s.size : Int) := by omega
    have i6 : (6 : Int) < (s.size : Int) := by omega
    have i7 : (7 : Int) < (s.size : Int) := by omega
    have e6 := bq s[6] 46 46 rfl
    have HD5 : Hid (∀ W, Calls Tryz.prog 58 #[.int .u8 ((s[5].toNat : Nat) : Int)] W fun e w' => e = .returned (.bool (digU s[5])) ∧ W = w') := fun W => dig_c _ W
    have HD7 : Hid (∀ W, Calls Tryz.prog 58 #[.int .u8 ((s[7].toNat : Nat) : Int)] W fun e w' => e = .returned (.bool (digU s[7])) ∧ W = w') := fun W => dig_c _ W
    revert HP HD5 HD7 e6
    generalize Lib.hasPrefix s.data.toList [72, 84, 84, 80, 47] = a
    generalize digU s[5] = b
    generalize decide (s[6] = 46) = c
    generalize digU s[7] = d
    intro HP e6 HD5 HD7
    clear h
    cases a with
    | false =>
      show Calls _ _ _ _ fun e w' => e = .returned (.bool false) ∧ _
      go_enter Tryz.func38, Tryz.ntmps38
      go_wp2_with fail
      refine (HP.out _).mono ?_
      rintro e w1 ⟨rfl, hw⟩
      rw [hw]; clear hw
      go_wp2
      go_ret
      exact ⟨rfl, rfl⟩
    | true =>
      cases b with
      | false =>
        show Calls _ _ _ _ fun e w' => e = .returned (.bool false) ∧ _
        go_enter Tryz.func38, Tryz.ntmps38
        go_wp2_with fail
        refine (HP.out _).mono ?_
        rintro e w1 ⟨rfl, hw⟩
        rw [hw]; clear hw
        go_wp2_with fail
        refine (HD5.out _).mono ?_
        rintro e w1 ⟨rfl, hw⟩
        rw [← hw]; clear hw
        go_wp2
        go_ret
        exact ⟨rfl, rfl⟩
      | true =>
        cases c with
        | false =>
          show Calls _ _ _ _ fun e w' => e = .returned (.bool false) ∧ _
          go_enter Tryz.func38, Tryz.ntmps38
          go_wp2_with fail
          refine (HP.out _).mono ?_
          rintro e w1 ⟨rfl, hw⟩
          rw [hw]; clear hw
          go_wp2_with fail
          refine (HD5.out _).mono ?_
          rintro e w1 ⟨rfl, hw⟩
          rw [← hw]; clear hw
          go_wp2
          go_ret
          exact ⟨rfl, rfl⟩
        | true =>
          show Calls _ _ _ _ fun e w' => e = .returned (.bool d) ∧ _
          go_enter Tryz.func38, Tryz.ntmps38
          go_wp2_with fail
          refine (HP.out _).mono ?_
          rintro e w1 ⟨rfl, hw⟩
          rw [hw]; clear hw
          go_wp2_with fail
          refine (HD5.out _).mono ?_
          rintro e w1 ⟨rfl, hw⟩
          rw [← hw]; clear hw
          go_wp2_with fail
          refine (HD7.out _).mono ?_
          rintro e w1 ⟨rfl, hw⟩
          rw [← hw]; clear hw
          go_wp2
          go_ret
          exact ⟨rfl, rfl⟩
  · rw [dif_neg h]
    have h8 : ((s.size : Int) == 8) = false := beq_eq_false_iff_ne.2 (by omega)
    have hd8 : decide (s.size = 8) = false := by simpa using h
    go_enter Tryz.func38, Tryz.ntmps38
    go_wp2
    go_ret
    exact ⟨rfl, rfl⟩
set_option maxRecDepth 100000 in
set_option maxHeartbeats 1000000 in
theorem major_g (s : ByteArray) (w : World) (h : 5 < s.size) (hd : digU s[5] = true) : Calls Tryz.prog 39 #[.string s] w fun e w' => e = .returned (.int .i64 (((s[5].toNat : Nat) : Int) - 48)) ∧ w = w' := by
  have hb : 48 ≤ ((s[5].toNat : Nat) : Int) ∧ ((s[5].toNat : Nat) : Int) ≤ 57 := by unfold digU digB at hd; simpa using hd
  obtain ⟨b0, b1⟩ := hb
  have hi : (5 : Int) < (s.size : Int) := by omega
  clear hd
  go_enter Tryz.func39, Tryz.ntmps39
  go_wp2
  go_ret
  exact ⟨rfl, rfl⟩
set_option maxRecDepth 100000 in
set_option maxHeartbeats 1000000 in
theorem minor_g (s : ByteArray) (w : World) (h : 7 < s.size) (hd : digU s[7] = true) : Calls Tryz.prog 41 #[.string s] w fun e w' => e = .returned (.int .i64 (((s[7].toNat : Nat) : Int) - 48)) ∧ w = w' := by
  have hb : 48 ≤ ((s[7].toNat : Nat) : Int) ∧ ((s[7].toNat : Nat) : Int) ≤ 57 := by unfold digU digB at hd; simpa using hd
  obtain ⟨b0, b1⟩ := hb
  have hi : (7 : Int) < (s.size : Int) := by omega
  clear hd
  go_enter Tryz.func41, Tryz.ntmps41
  go_wp2
  go_ret
  exact ⟨rfl, rfl⟩
end Go.Proofs.YtkblggpnghdnmaaGreatDoor.Hd
