/- Contract of the document's own Parse where the text is digits: for every text of at most a thousand bytes. -/
import Derived.Test.YtbafjilhopgjmaaDoorNuRefs2
namespace Go.Proofs.YtbafjilhopgjmaaDoor.Nu
open Go.RowKit
set_option linter.unusedSimpArgs false
set_option linter.unusedVariables false

set_option maxRecDepth 100000 in
set_option maxHeartbeats 1000000 in
theorem parseRNeg_long (s : ByteArray) (w : World) (hs : s.size ≤ 1000) (h0 : 0 < s.size) (hq : ((s[0].toNat : Int) == 45) = true) (hn : allB (s.extract 1 s.size).data.toList = true) (hb : badB (s.extract 1 s.size).data.toList = false) (hv : 9223372036854775808 < val 10 (s.extract 1 s.size).data.toList) :
    Calls Tryd.prog 32 #[.string s] w fun e w' => e = .returned (.tuple #[.int .i64 0, .int .i64 5]) ∧ w = w' := by
  have hem := empty_no (s := s) (by omega)
  have hs1 : 1 ≤ s.size := h0
  have hs1' : (1 : Int) ≤ (s.size : Int) := by omega
  have ht : (s.extract 1 s.size).size ≤ 1000 := by rw [ByteArray.size_extract]; omega
  have HA := Lib.hid (fun W => all_r (s.extract 1 s.size) W ht)
  rw [hn] at HA
  have HAB := Lib.hid (fun W => aboveNeg (s.extract 1 s.size) W ht hn)
  rw [decide_eq_true hv] at HAB
  have hh : ∀ (g : 0 < (s.extract 1 s.size).size), 1 < (s.extract 1 s.size).size → ((((s.extract 1 s.size)[0]'g).toNat : Int) == 48) = false := fun g h => by
    rw [byte_eq (s.extract 1 s.size) 0 g 48 48 rfl]
    apply decide_eq_false
    intro e
    exact (of_decide_eq_false hb) ⟨by rw [← Lib.size_eq]; exact h, e⟩
  clear hb
  clear hn hv
  go_enter Tryd.func32, Tryd.ntmps32
  go_wp2_with fail
  refine (HA.out _).mono ?_
  rintro e w' ⟨rfl, rfl⟩
  clear HA
  revert ht HAB hh
  generalize s.extract 1 s.size = t
  intro ht HAB hh
  by_cases b1 : 1 < t.size
  · have b1' : (1 : Int) < (t.size : Int) := by omega
    have h0t : 0 < t.size := by omega
    have hq2 := hh h0t b1
    clear hh
    go_wp2_with fail
    refine (HAB.out _).mono ?_
    rintro e w' ⟨rfl, rfl⟩
    go_wp2
    go_ret2
    exact ⟨rfl, rfl⟩
  · have b1' : ¬ (1 : Int) < (t.size : Int) := by omega
    clear hh
    go_wp2_with fail
    refine (HAB.out _).mono ?_
    rintro e w' ⟨rfl, rfl⟩
    go_wp2
    go_ret2
    exact ⟨rfl, rfl⟩

set_option maxRecDepth 100000 in
set_option maxHeartbeats 2000000 in
theorem parseRNeg_num (r : Int) (s : ByteArray) (w : World) (hs : s.size ≤ 1000) (h0 : 0 < s.size) (hq : ((s[0].toNat : Int) == 45) = true) (hn : allB (s.extract 1 s.size).data.toList = true) (hb : badB (s.extract 1 s.size).data.toList = false) (hv : val 10 (s.extract 1 s.size).data.toList ≤ 9223372036854775808) (hr : r = -val 10 (s.extract 1 s.size).data.toList) :
    Calls Tryd.prog 32 #[.string s] w fun e w' => e = .returned (.tuple #[.int .i64 r, .int .i64 0]) ∧ w = w' := by
  have hem := empty_no (s := s) (by omega)
  have hs1 : 1 ≤ s.size := h0
  have hs1' : (1 : Int) ≤ (s.size : Int) := by omega
  have ht : (s.extract 1 s.size).size ≤ 1000 := by rw [ByteArray.size_extract]; omega
  have HA := Lib.hid (fun W => all_r (s.extract 1 s.size) W ht)
  rw [hn] at HA
  have HAB := Lib.hid (fun W => aboveNeg (s.extract 1 s.size) W ht hn)
  rw [decide_eq_false (show ¬ 9223372036854775808 < val 10 (s.extract 1 s.size).data.toList by omega)] at HAB
  have hh : ∀ (g : 0 < (s.extract 1 s.size).size), 1 < (s.extract 1 s.size).size → ((((s.extract 1 s.size)[0]'g).toNat : Int) == 48) = false := fun g h => by
    rw [byte_eq (s.extract 1 s.size) 0 g 48 48 rfl]
    apply decide_eq_false
    intro e
    exact (of_decide_eq_false hb) ⟨by rw [← Lib.size_eq]; exact h, e⟩
  clear hb
  have HAL := Lib.hid ((all_iff _).1 hn).2
  have HV := Lib.hid hv
  have HR := Lib.hid hr
  have hsl := Lib.hid (Lib.size_eq (s.extract 1 s.size))
  clear hn hv hr
  go_enter Tryd.func32, Tryd.ntmps32
  go_wp2_with fail
  refine (HA.out _).mono ?_
  rintro e w' ⟨rfl, rfl⟩
  clear HA
  revert ht HAB hh HAL HV HR hsl
  generalize s.extract 1 s.size = t
  intro ht HAB hh HAL HV HR hsl
  by_cases b1 : 1 < t.size
  · have b1' : (1 : Int) < (t.size : Int) := by omega
    have h0t : 0 < t.size := by omega
    have hq2 := hh h0t b1
    clear hh
    go_wp2_with fail
    refine (HAB.out _).mono ?_
    rintro e w' ⟨rfl, rfl⟩
    go_wp2
    go_loop [6, 7] (fun v i => ∃ k : Nat, k ≤ t.size ∧ i = .int .i64 k ∧ v = .int .i64 (-val 10 (t.data.toList.take k))) (fun _ i => t.size - (intOf i).toNat)
    case atStart => exact ⟨0, by omega, rfl, by simp [val]⟩
    case round =>
      obtain ⟨k, hk, rfl, rfl⟩ := hrel
      have hak : (t.data.toList.take k).all (okD 10) = true := List.all_eq_true.2 fun x hx => List.all_eq_true.1 HAL.out x (List.mem_of_mem_take hx)
      have v0 := (val_bd (B := 10) (.inl rfl) _ hak).1
      have v1 : val 10 (t.data.toList.take k) ≤ 9223372036854775808 := Int.le_trans (val_take_le (.inl rfl) _ HAL.out k) HV.out
      clear hak
      by_cases hlt : k < t.size
      · have hb : okD 10 t[k] = true := List.all_eq_true.1 HAL.out _ (by rw [← gdat t k hlt]; exact List.getElem_mem _)
        have v2 : val 10 (t.data.toList.take (k + 1)) ≤ 9223372036854775808 := Int.le_trans (val_take_le (.inl rfl) _ HAL.out (k + 1)) HV.out
        have HS : Hid (val 10 (t.data.toList.take (k + 1)) = val 10 (t.data.toList.take k) * 10 + ((t[k].toNat : Int) - 48)) := by
          show val 10 (t.data.toList.take (k + 1)) = _
          rw [take_snoc hlt, val_snoc]
          rw [ok_dig] at hb
          unfold hvU hv
          rw [if_pos (of_decide_eq_true hb)]
        rw [ok_dig] at hb
        obtain ⟨d0, d1⟩ := of_decide_eq_true hb
        rw [HS.out] at v2
        clear hb
        revert HS v0 v1 v2
        generalize val 10 (t.data.toList.take k) = v
        intro v0 v1 v2 HS
        go_wp2
        go_round
        case rel => exact ⟨k + 1, by omega, by go_num, by rw [HS.out]; go_num⟩
        case measure => simp [intOf]; omega
      · have HT : Hid (t.data.toList.take k = t.data.toList) := List.take_of_length_le (by rw [← hsl.out]; omega)
        go_wp2
        go_ret2
        exact ⟨ret2_ii (by rw [HR.out, HT.out]) rfl, rfl⟩
  · have b1' : ¬ (1 : Int) < (t.size : Int) := by omega
    clear hh
    go_wp2_with fail
    refine (HAB.out _).mono ?_
    rintro e w' ⟨rfl, rfl⟩
    go_wp2
    go_loop [6, 7] (fun v i => ∃ k : Nat, k ≤ t.size ∧ i = .int .i64 k ∧ v = .int .i64 (-val 10 (t.data.toList.take k))) (fun _ i => t.size - (intOf i).toNat)
    case atStart => exact ⟨0, by omega, rfl, by simp [val]⟩
    case round =>
      obtain ⟨k, hk, rfl, rfl⟩ := hrel
      have hak : (t.data.toList.take k).all (okD 10) = true := List.all_eq_true.2 fun x hx => List.all_eq_true.1 HAL.out x (List.mem_of_mem_take hx)
      have v0 := (val_bd (B := 10) (.inl rfl) _ hak).1
      have v1 : val 10 (t.data.toList.take k) ≤ 9223372036854775808 := Int.le_trans (val_take_le (.inl rfl) _ HAL.out k) HV.out
      clear hak
      by_cases hlt : k < t.size
      · have hb : okD 10 t[k] = true := List.all_eq_true.1 HAL.out _ (by rw [← gdat t k hlt]; exact List.getElem_mem _)
        have v2 : val 10 (t.data.toList.take (k + 1)) ≤ 9223372036854775808 := Int.le_trans (val_take_le (.inl rfl) _ HAL.out (k + 1)) HV.out
        have HS : Hid (val 10 (t.data.toList.take (k + 1)) = val 10 (t.data.toList.take k) * 10 + ((t[k].toNat : Int) - 48)) := by
          show val 10 (t.data.toList.take (k + 1)) = _
          rw [take_snoc hlt, val_snoc]
          rw [ok_dig] at hb
          unfold hvU hv
          rw [if_pos (of_decide_eq_true hb)]
        rw [ok_dig] at hb
        obtain ⟨d0, d1⟩ := of_decide_eq_true hb
        rw [HS.out] at v2
        clear hb
        revert HS v0 v1 v2
        generalize val 10 (t.data.toList.take k) = v
        intro v0 v1 v2 HS
        go_wp2
        go_round
        case rel => exact ⟨k + 1, by omega, by go_num, by rw [HS.out]; go_num⟩
        case measure => simp [intOf]; omega
      · have HT : Hid (t.data.toList.take k = t.data.toList) := List.take_of_length_le (by rw [← hsl.out]; omega)
        go_wp2
        go_ret2
        exact ⟨ret2_ii (by rw [HR.out, HT.out]) rfl, rfl⟩

set_option maxRecDepth 100000 in
set_option maxHeartbeats 1000000 in
theorem parseRPos_long (s : ByteArray) (w : World) (hs : s.size ≤ 1000) (h0 : 0 < s.size) (hq : ((s[0].toNat : Int) == 45) = false) (hn : allB s.data.toList = true) (hb : badB s.data.toList = false) (hv : 9223372036854775807 < val 10 s.data.toList) :
    Calls Tryd.prog 32 #[.string s] w fun e w' => e = .returned (.tuple #[.int .i64 0, .int .i64 5]) ∧ w = w' := by
  have hem := empty_no (s := s) (by omega)
  have hs1 : 1 ≤ s.size := h0
  have ht : s.size ≤ 1000 := hs
  have HA := Lib.hid (fun W => all_r s W ht)
  rw [hn] at HA
  have HAB := Lib.hid (fun W => abovePos s W ht hn)
  rw [decide_eq_true hv] at HAB
  have hh : ∀ (g : 0 < s.size), 1 < s.size → (((s[0]'g).toNat : Int) == 48) = false := fun g h => by
    rw [byte_eq s 0 g 48 48 rfl]
    apply decide_eq_false
    intro e
    exact (of_decide_eq_false hb) ⟨by rw [← Lib.size_eq]; exact h, e⟩
  clear hb
  clear hn hv
  go_enter Tryd.func32, Tryd.ntmps32
  go_wp2_with fail
  refine (HA.out _).mono ?_
  rintro e w' ⟨rfl, rfl⟩
  clear HA
  by_cases b1 : 1 < s.size
  · have b1' : (1 : Int) < (s.size : Int) := by omega
    have h0t : 0 < s.size := by omega
    have hq2 := hh h0t b1
    clear hh
    go_wp2_with fail
    refine (HAB.out _).mono ?_
    rintro e w' ⟨rfl, rfl⟩
    go_wp2
    go_ret2
    exact ⟨rfl, rfl⟩
  · have b1' : ¬ (1 : Int) < (s.size : Int) := by omega
    clear hh
    go_wp2_with fail
    refine (HAB.out _).mono ?_
    rintro e w' ⟨rfl, rfl⟩
    go_wp2
    go_ret2
    exact ⟨rfl, rfl⟩

set_option maxRecDepth 100000 in
set_option maxHeartbeats 2000000 in
theorem parseRPos_num (r : Int) (s : ByteArray) (w : World) (hs : s.size ≤ 1000) (h0 : 0 < s.size) (hq : ((s[0].toNat : Int) == 45) = false) (hn : allB s.data.toList = true) (hb : badB s.data.toList = false) (hv : val 10 s.data.toList ≤ 9223372036854775807) (hr : r = val 10 s.data.toList) :
    Calls Tryd.prog 32 #[.string s] w fun e w' => e = .returned (.tuple #[.int .i64 r, .int .i64 0]) ∧ w = w' := by
  have hem := empty_no (s := s) (by omega)
  have hs1 : 1 ≤ s.size := h0
  have ht : s.size ≤ 1000 := hs
  have HA := Lib.hid (fun W => all_r s W ht)
  rw [hn] at HA
  have HAB := Lib.hid (fun W => abovePos s W ht hn)
  rw [decide_eq_false (show ¬ 9223372036854775807 < val 10 s.data.toList by omega)] at HAB
  have hh : ∀ (g : 0 < s.size), 1 < s.size → (((s[0]'g).toNat : Int) == 48) = false := fun g h => by
    rw [byte_eq s 0 g 48 48 rfl]
    apply decide_eq_false
    intro e
    exact (of_decide_eq_false hb) ⟨by rw [← Lib.size_eq]; exact h, e⟩
  clear hb
  have HAL := Lib.hid ((all_iff _).1 hn).2
  have HV := Lib.hid hv
  have HR := Lib.hid hr
  have hsl := Lib.hid (Lib.size_eq s)
  clear hn hv hr
  go_enter Tryd.func32, Tryd.ntmps32
  go_wp2_with fail
  refine (HA.out _).mono ?_
  rintro e w' ⟨rfl, rfl⟩
  clear HA
  by_cases b1 : 1 < s.size
  · have b1' : (1 : Int) < (s.size : Int) := by omega
    have h0t : 0 < s.size := by omega
    have hq2 := hh h0t b1
    clear hh
    go_wp2_with fail
    refine (HAB.out _).mono ?_
    rintro e w' ⟨rfl, rfl⟩
    go_wp2
    go_loop [6, 7] (fun v i => ∃ k : Nat, k ≤ s.size ∧ i = .int .i64 k ∧ v = .int .i64 (val 10 (s.data.toList.take k))) (fun _ i => s.size - (intOf i).toNat)
    case atStart => exact ⟨0, by omega, rfl, by simp [val]⟩
    case round =>
      obtain ⟨k, hk, rfl, rfl⟩ := hrel
      have hak : (s.data.toList.take k).all (okD 10) = true := List.all_eq_true.2 fun x hx => List.all_eq_true.1 HAL.out x (List.mem_of_mem_take hx)
      have v0 := (val_bd (B := 10) (.inl rfl) _ hak).1
      have v1 : val 10 (s.data.toList.take k) ≤ 9223372036854775807 := Int.le_trans (val_take_le (.inl rfl) _ HAL.out k) HV.out
      clear hak
      by_cases hlt : k < s.size
      · have hb : okD 10 s[k] = true := List.all_eq_true.1 HAL.out _ (by rw [← gdat s k hlt]; exact List.getElem_mem _)
        have v2 : val 10 (s.data.toList.take (k + 1)) ≤ 9223372036854775807 := Int.le_trans (val_take_le (.inl rfl) _ HAL.out (k + 1)) HV.out
        have HS : Hid (val 10 (s.data.toList.take (k + 1)) = val 10 (s.data.toList.take k) * 10 + ((s[k].toNat : Int) - 48)) := by
          show val 10 (s.data.toList.take (k + 1)) = _
          rw [take_snoc hlt, val_snoc]
          rw [ok_dig] at hb
          unfold hvU hv
          rw [if_pos (of_decide_eq_true hb)]
        rw [ok_dig] at hb
        obtain ⟨d0, d1⟩ := of_decide_eq_true hb
        rw [HS.out] at v2
        clear hb
        revert HS v0 v1 v2
        generalize val 10 (s.data.toList.take k) = v
        intro v0 v1 v2 HS
        go_wp2
        go_round
        case rel => exact ⟨k + 1, by omega, by go_num, by rw [HS.out]; go_num⟩
        case measure => simp [intOf]; omega
      · have HT : Hid (s.data.toList.take k = s.data.toList) := List.take_of_length_le (by rw [← hsl.out]; omega)
        go_wp2
        go_ret2
        exact ⟨ret2_ii (by rw [HR.out, HT.out]) rfl, rfl⟩
  · have b1' : ¬ (1 : Int) < (s.size : Int) := by omega
    clear hh
    go_wp2_with fail
    refine (HAB.out _).mono ?_
    rintro e w' ⟨rfl, rfl⟩
    go_wp2
    go_loop [6, 7] (fun v i => ∃ k : Nat, k ≤ s.size ∧ i = .int .i64 k ∧ v = .int .i64 (val 10 (s.data.toList.take k))) (fun _ i => s.size - (intOf i).toNat)
    case atStart => exact ⟨0, by omega, rfl, by simp [val]⟩
    case round =>
      obtain ⟨k, hk, rfl, rfl⟩ := hrel
      have hak : (s.data.toList.take k).all (okD 10) = true := List.all_eq_true.2 fun x hx => List.all_eq_true.1 HAL.out x (List.mem_of_mem_take hx)
      have v0 := (val_bd (B := 10) (.inl rfl) _ hak).1
      have v1 : val 10 (s.data.toList.take k) ≤ 9223372036854775807 := Int.le_trans (val_take_le (.inl rfl) _ HAL.out k) HV.out
      clear hak
      by_cases hlt : k < s.size
      · have hb : okD 10 s[k] = true := List.all_eq_true.1 HAL.out _ (by rw [← gdat s k hlt]; exact List.getElem_mem _)
        have v2 : val 10 (s.data.toList.take (k + 1)) ≤ 9223372036854775807 := Int.le_trans (val_take_le (.inl rfl) _ HAL.out (k + 1)) HV.out
        have HS : Hid (val 10 (s.data.toList.take (k + 1)) = val 10 (s.data.toList.take k) * 10 + ((s[k].toNat : Int) - 48)) := by
          show val 10 (s.data.toList.take (k + 1)) = _
          rw [take_snoc hlt, val_snoc]
          rw [ok_dig] at hb
          unfold hvU hv
          rw [if_pos (of_decide_eq_true hb)]
        rw [ok_dig] at hb
        obtain ⟨d0, d1⟩ := of_decide_eq_true hb
        rw [HS.out] at v2
        clear hb
        revert HS v0 v1 v2
        generalize val 10 (s.data.toList.take k) = v
        intro v0 v1 v2 HS
        go_wp2
        go_round
        case rel => exact ⟨k + 1, by omega, by go_num, by rw [HS.out]; go_num⟩
        case measure => simp [intOf]; omega
      · have HT : Hid (s.data.toList.take k = s.data.toList) := List.take_of_length_le (by rw [← hsl.out]; omega)
        go_wp2
        go_ret2
        exact ⟨ret2_ii (by rw [HR.out, HT.out]) rfl, rfl⟩
end Go.Proofs.YtbafjilhopgjmaaDoor.Nu
