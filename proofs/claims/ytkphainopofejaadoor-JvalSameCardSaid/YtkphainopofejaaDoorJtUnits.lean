/- Contracts of Valid and Pair of package utf and of package jtok's unit: for every text of at most a thousand bytes; where the tables lie as the program's text lays them. -/
import Derived.Test.YtkphainopofejaaDoorJtText
import Derived.Test.YtkphainopofejaaDoorJtSigns
import Derived.Test.YtkphainopofejaaDoorUtWalkC
import Derived.Test.YtkphainopofejaaDoorUtPut
namespace Go.Proofs.YtkphainopofejaaDoor.Jt
open Go.RowKit
set_option linter.unusedSimpArgs false
set_option linter.unusedVariables false

theorem valid_c (s : ByteArray) (w : World) (hT : Ut.Tabs w) (hs : s.size ≤ 1000) : Calls Tryd.prog 65 #[.string s] w fun e w' => e = .returned (.bool (vldB s.data.toList)) ∧ Below w.heap.size w w' := by
  have HW := Lib.hid (Ut.walk_c s w hT hs)
  have HV : Hid (vldB s.data.toList = decide ((Ut.walkL (Ut.nums s)).2 = s.size)) := by
    show vldB s.data.toList = _
    unfold vldB; rw [nums_nl, size_l]
  revert HW HV
  generalize Ut.walkL (Ut.nums s) = q
  intro HW HV
  obtain ⟨n, k⟩ := q
  simp only [Ut.tup2] at HW HV
  clear hT
  go_enter Tryd.func65, Tryd.ntmps65
  go_wp2_with fail
  refine HW.out.mono ?_
  rintro e w1 ⟨rfl, hb1⟩
  have B1 := Lib.hid hb1
  clear hb1
  go_wp2
  go_ret
  refine ⟨ret_bool ?_, B1.out⟩
  rw [HV.out, Bool.eq_iff_iff]
  simp
  try omega
theorem pair_no (hi lo : Int) (w : World) (h : ¬ (55296 ≤ hi ∧ hi ≤ 56319 ∧ 56320 ≤ lo ∧ lo ≤ 57343)) : Calls Tryd.prog 77 #[.int .i32 hi, .int .i32 lo] w fun e w' => e = .returned (.tuple #[.int .i32 0, .bool false]) ∧ w = w' := by
  by_cases h1 : hi < 55296
  · clear h
    go_enter Tryd.func77, Tryd.ntmps77
    go_wp2
    go_ret2
    exact ⟨rfl, rfl⟩
  · by_cases h2 : 56320 ≤ hi
    · clear h
      go_enter Tryd.func77, Tryd.ntmps77
      go_wp2
      go_ret2
      exact ⟨rfl, rfl⟩
    · by_cases h3 : lo < 56320
      · clear h
        go_enter Tryd.func77, Tryd.ntmps77
        go_wp2
        go_ret2
        exact ⟨rfl, rfl⟩
      · have h4 : 57343 < lo := by omega
        clear h
        go_enter Tryd.func77, Tryd.ntmps77
        go_wp2
        go_ret2
        exact ⟨rfl, rfl⟩
theorem ret_pair {a b : Int} (h : a = b) : Ending.returned (.tuple #[.int .i32 a, .bool true]) = .returned (.tuple #[.int .i32 b, .bool true]) := by rw [h]
theorem pair_yes (hi lo : Int) (w : World) (h1 : 55296 ≤ hi) (h2 : hi ≤ 56319) (h3 : 56320 ≤ lo) (h4 : lo ≤ 57343) : Calls Tryd.prog 77 #[.int .i32 hi, .int .i32 lo] w fun e w' => e = .returned (.tuple #[.int .i32 (65536 + (hi - 55296) * 1024 + lo - 56320), .bool true]) ∧ w = w' := by
  go_enter Tryd.func77, Tryd.ntmps77
  go_wp2
  go_ret2
  exact ⟨ret_pair (by omega), rfl⟩

/-- what the unit at a place is: -1: none -/
def uniA (l : List UInt8) (k : Nat) : Int := if k + 6 ≤ l.length ∧ at0 l k = 92 ∧ at0 l (k + 1) = 117 then hexA l (k + 2) else -1
theorem rd_four (l : List UInt8) (h : l.length = 4) : 0 ≤ Nu.rdN 16 2147483647 l ∧ Nu.rdN 16 2147483647 l ≤ 65535 := by
  unfold Nu.rdN
  split
  · rename_i g
    have := Nu.val_bd (B := 16) (.inr rfl) l g.2.1
    rw [h] at this
    have e : (16 : Int) ^ 4 = 65536 := by decide
    omega
  · omega
theorem hexA_bd (l : List UInt8) (k : Nat) : -1 ≤ hexA l k ∧ hexA l k ≤ 65535 := by
  unfold hexA
  split
  · omega
  · rename_i h
    split
    · have := rd_four (cutL l k (k + 4)) (by rw [cutL_len (by omega)]; omega)
      omega
    · omega
theorem rdE_cases (B M : Int) (l : List UInt8) : Nu.rdE B M l = 0 ∨ ((Nu.rdE B M l == 0) = false ∧ Nu.rdN B M l = 0) := by
  unfold Nu.rdE Nu.rdN
  by_cases h : l ≠ [] ∧ l.all (Nu.okD B) = true
  · rw [if_pos h]
    by_cases h2 : Nu.val B l ≤ M
    · rw [if_pos h2]; exact .inl rfl
    · rw [if_neg h2, if_neg (fun g => h2 g.2.2)]; exact .inr ⟨by decide, rfl⟩
  · rw [if_neg h, if_neg (fun g => h ⟨g.1, g.2.1⟩)]; exact .inr ⟨by decide, rfl⟩
set_option maxRecDepth 100000 in
set_option maxHeartbeats 2000000 in
theorem unit_yes (s : ByteArray) (k : Nat) (w : World) (hs : s.size ≤ 1000) (h : 0 ≤ uniA s.data.toList k) : Calls Tryd.prog 75 #[.string s, .int .i64 (k : Int)] w fun e w' => e = .returned (.tuple #[.int .i32 (uniA s.data.toList k), .bool true]) ∧ w = w' := by
  unfold uniA at h ⊢
  by_cases hc : k + 6 ≤ s.data.toList.length ∧ at0 s.data.toList k = 92 ∧ at0 s.data.toList (k + 1) = 117
  · rw [if_pos hc] at h ⊢
    obtain ⟨h1, h2, h3⟩ := hc
    rw [← size_l] at h1
    have hbd := hexA_bd s.data.toList (k + 2)
    unfold hexA at h hbd ⊢
    rw [← size_l, if_neg (by omega)] at h hbd ⊢
    by_cases hE : Nu.rdE 16 2147483647 (cutL s.data.toList (k + 2) (k + 2 + 4)) = 0
    · rw [if_pos hE] at h hbd ⊢
      have q1 : ((s[k].toNat : Int) != 92) = false := by rw [bne, byte_q s k (by omega), h2]; rfl
      have q2 : ((s[k + 1].toNat : Int) != 117) = false := by rw [bne, byte_q s (k + 1) (by omega), h3]; rfl
      have hz : (s.extract (k + 2) (k + 6)).size ≤ 1000 := by rw [ByteArray.size_extract]; omega
      have HP := Lib.hid (fun W => Nu.hex_c (s.extract (k + 2) (k + 6)) W hz)
      rw [extract_cut, show k + 6 = k + 2 + 4 by omega, hE] at HP
      rw [show k + 2 + 4 = k + 6 by omega] at HP
      rw [show k + 2 + 4 = k + 6 by omega] at h hbd ⊢
      clear hE h2 h3 hz
      revert HP h hbd
      generalize Nu.rdN 16 2147483647 (cutL s.data.toList (k + 2) (k + 6)) = n
      intro h hbd HP
      obtain ⟨_, hb2⟩ := hbd
      have h1' : (k : Int) + 6 ≤ (s.size : Int) := by omega
      have hx : ¬ ((s.size : Int) - (k : Int) < 6) := by omega
      have hk0 : (0 : Int) ≤ (k : Int) := by omega
      go_enter Tryd.func75, Tryd.ntmps75
      go_wp2_with (go_at_call 81; refine (HP.out _).mono ?_; rintro e w' ⟨rfl, rfl⟩)
      go_ret2
      exact ⟨rfl, rfl⟩
    · rw [if_neg hE] at h; omega
  · rw [if_neg hc] at h; omega
set_option maxRecDepth 100000 in
set_option maxHeartbeats 2000000 in
theorem unit_no (s : ByteArray) (k : Nat) (w : World) (hs : s.size ≤ 1000) (hk : k ≤ s.size) (h : uniA s.data.toList k < 0) : Calls Tryd.prog 75 #[.string s, .int .i64 (k : Int)] w fun e w' => e = .returned (.tuple #[.int .i32 0, .bool false]) ∧ w = w' := by
  by_cases h1 : k + 6 ≤ s.size
  · have hx : ¬ ((s.size : Int) - (k : Int) < 6) := by omega
    have h1' : (k : Int) + 6 ≤ (s.size : Int) := by omega
    have hk0 : (0 : Int) ≤ (k : Int) := by omega
    by_cases h2 : at0 s.data.toList k = 92
    · have q1 : ((s[k].toNat : Int) != 92) = false := by rw [bne, byte_q s k (by omega), h2]; rfl
      by_cases h3 : at0 s.data.toList (k + 1) = 117
      · have q2 : ((s[k + 1].toNat : Int) != 117) = false := by rw [bne, byte_q s (k + 1) (by omega), h3]; rfl
        unfold uniA hexA at h
        rw [if_pos ⟨by rw [← size_l]; omega, h2, h3⟩, ← size_l, if_neg (by omega)] at h
        have hz : (s.extract (k + 2) (k + 6)).size ≤ 1000 := by rw [ByteArray.size_extract]; omega
        have HP := Lib.hid (fun W => Nu.hex_c (s.extract (k + 2) (k + 6)) W hz)
        rw [extract_cut] at HP
        have hN := (Nu.rdN_bd 16 2147483647 (.inr rfl) (by decide) (cutL s.data.toList (k + 2) (k + 6))).1
        rw [show k + 2 + 4 = k + 6 by omega] at h
        rcases rdE_cases 16 2147483647 (cutL s.data.toList (k + 2) (k + 6)) with g | ⟨g, g2⟩
        · rw [if_pos g] at h; omega
        · rw [g2] at HP
          clear h h2 h3 hz hN g2
          revert HP g
          generalize Nu.rdE 16 2147483647 (cutL s.data.toList (k + 2) (k + 6)) = e0
          intro HP g
          go_enter Tryd.func75, Tryd.ntmps75
          go_wp2_with (go_at_call 81; refine (HP.out _).mono ?_; rintro e w' ⟨rfl, rfl⟩)
          go_ret2
          exact ⟨rfl, rfl⟩
      · have q2 : ((s[k + 1].toNat : Int) != 117) = true := by rw [bne, byte_q s (k + 1) (by omega), decide_eq_false h3]; rfl
        clear h h2 h3
        go_enter Tryd.func75, Tryd.ntmps75
        go_wp2
        go_ret2
        exact ⟨rfl, rfl⟩
    · have q1 : ((s[k].toNat : Int) != 92) = true := by rw [bne, byte_q s k (by omega), decide_eq_false h2]; rfl
      clear h h2
      go_enter Tryd.func75, Tryd.ntmps75
      go_wp2
      go_ret2
      exact ⟨rfl, rfl⟩
  · have hx : ((s.size : Int) - (k : Int) < 6) := by omega
    clear h
    go_enter Tryd.func75, Tryd.ntmps75
    go_wp2
    go_ret2
    exact ⟨rfl, rfl⟩
end Go.Proofs.YtkphainopofejaaDoor.Jt
