/- Contracts of a mark's bytes, of both packages: for every text of at most a thousand bytes. -/
import Derived.Test.YtojmjdgapfcjfaaDoorEtPlain
import Derived.WalkSmall
import Derived.Test.YtojmjdgapfcjfaaDoorNuReads
import Derived.Deep.QuietTactic
import Derived.BigQuiet
import Derived.Deep.RegionHeld3
import Derived.Test.YtojmjdgapfcjfaaDoorNuShelf
import Derived.Shelf.Small.Wraps
import Derived.Shelf.Strings.Search2
namespace Go.Proofs.YtojmjdgapfcjfaaDoor.Et
open Go.RowKit Ch
set_option linter.unusedSimpArgs false
set_option linter.unusedVariables false

def mkI (c : Int) : Bool := decide (c = 33) || (decide (35 ≤ c) && decide (c ≤ 126)) || decide (128 ≤ c)
theorem mkI_mkB (c : UInt8) : mkI (c.toNat : Int) = mkB c := by
  unfold mkI mkB
  have e : (c = 33) ↔ ((c.toNat : Int) = 33) := ⟨fun h => by subst h; rfl, fun h => UInt8.toNat_inj.1 (by show c.toNat = 33; omega)⟩
  have e1 : (35 ≤ c.toNat) ↔ ((35 : Int) ≤ (c.toNat : Int)) := by omega
  have e2 : (c.toNat ≤ 126) ↔ ((c.toNat : Int) ≤ 126) := by omega
  have e3 : (128 ≤ c.toNat) ↔ ((128 : Int) ≤ (c.toNat : Int)) := by omega
  simp only [e, e1, e2, e3]
theorem ret_b {a b : Bool} (h : a = b) : Ending.returned (.bool a) = .returned (.bool b) := by rw [h]
set_option maxRecDepth 100000 in
set_option maxHeartbeats 1000000 in
theorem inMark_c (c : Int) (w : World) (h0 : 0 ≤ c) (h1 : c ≤ 255) : Calls Tryd.prog 23 #[.int .u8 c] w fun e w' => e = .returned (.bool (mkI c)) ∧ w = w' := by
  have HV := Lib.hid (fun W => vis_c c W)
  by_cases ha : 33 ≤ c ∧ c ≤ 126
  · have e : visB c = true := by unfold visB; simp; omega
    rw [e] at HV
    by_cases hq : c = 34
    · subst hq
      clear ha h0 h1
      go_enter Tryd.func23, Tryd.ntmps23
      go_wp2_with (go_at_call 34; refine (HV.out _).mono ?_; rintro e w' ⟨rfl, rfl⟩)
      go_ret
      exact ⟨rfl, rfl⟩
    · have hm : mkI c = true := by unfold mkI; simp; omega
      have hz : (c == 34) = false := by simpa using hq
      rw [hm]
      go_enter Tryd.func23, Tryd.ntmps23
      go_wp2_with (go_at_call 34; refine (HV.out _).mono ?_; rintro e w' ⟨rfl, rfl⟩)
      go_ret
      exact ⟨rfl, rfl⟩
  · have e : visB c = false := by unfold visB; simp; omega
    have hm : mkI c = decide (128 ≤ c) := by
      unfold mkI
      have a1 : decide (c = 33) = false := by simp; omega
      have a2 : (decide (35 ≤ c) && decide (c ≤ 126)) = false := by simp; omega
      rw [a1, a2]; rfl
    rw [e] at HV
    rw [hm]
    clear ha e hm
    go_enter Tryd.func23, Tryd.ntmps23
    go_wp2_with (go_at_call 34; refine (HV.out _).mono ?_; rintro e w' ⟨rfl, rfl⟩)
    go_ret
    exact ⟨rfl, rfl⟩
set_option maxRecDepth 100000 in
set_option maxHeartbeats 1000000 in
theorem byte_r (c : Int) (w : World) (h0 : 0 ≤ c) (h1 : c ≤ 255) : Calls Tryd.prog 24 #[.int .u8 c] w fun e w' => e = .returned (.bool (mkI c)) ∧ w = w' := by
  by_cases ha : c = 33
  · subst ha
    clear h0 h1
    go_enter Tryd.func24, Tryd.ntmps24
    go_wp2
    go_ret
    exact ⟨rfl, rfl⟩
  · have hz : (c == 33) = false := by simpa using ha
    by_cases hb : 35 ≤ c
    · by_cases hc : c ≤ 126
      · have hm : mkI c = true := by unfold mkI; simp; omega
        rw [hm]
        go_enter Tryd.func24, Tryd.ntmps24
        go_wp2
        go_ret
        exact ⟨rfl, rfl⟩
      · have hm : mkI c = decide (128 ≤ c) := by
          unfold mkI
          have a1 : decide (c = 33) = false := by simp; omega
          have a2 : (decide (35 ≤ c) && decide (c ≤ 126)) = false := by simp; omega
          rw [a1, a2]; rfl
        have hc' : ¬ c ≤ 126 := hc
        rw [hm]
        go_enter Tryd.func24, Tryd.ntmps24
        go_wp2
        go_ret
        exact ⟨rfl, rfl⟩
    · have hm : mkI c = false := by unfold mkI; simp; omega
      have hd : ¬ 128 ≤ c := by omega
      rw [hm]
      go_enter Tryd.func24, Tryd.ntmps24
      go_wp2
      go_ret
      exact ⟨rfl, rfl⟩
theorem all_no {s : ByteArray} {k : Nat} (hk : k < s.size) (h : mkB s[k] = false) : s.data.toList.all mkB = false := by
  rw [List.all_eq_false]
  exact ⟨s[k], by rw [← gdat s k hk]; exact List.getElem_mem _, by simp [h]⟩
def mkA (l : List UInt8) : Bool := l.all mkB
theorem mkA_step {s : ByteArray} {k : Nat} (hk : k < s.size) (h : mkA (s.data.toList.take k) = true) (hb : mkB s[k] = true) : mkA (s.data.toList.take (k + 1)) = true := by
  have hl : k < s.data.toList.length := by rw [← Lib.size_eq]; exact hk
  unfold mkA at *
  rw [List.take_succ_eq_append_getElem hl, List.all_append, h, gdat s k hk]
  simp [hb]
theorem ev_m : ∀ W : World, (binOp .eql 54 (.func (.func 23) #[] #[]) .nilFunc).run Tryd.prog W = .ok (.bool false) W := fun _ => by kernel_rfl
set_option maxRecDepth 100000 in
set_option maxHeartbeats 2000000 in
theorem all_c (s : ByteArray) (w : World) (hs : s.size ≤ 1000) : Calls Tryd.prog 22 #[.string s, .func (.func 23) #[] #[]] w fun e w' => e = .returned (.bool (mkA s.data.toList)) ∧ w = w' := by
  have hsl := Lib.hid (Lib.size_eq s)
  have hev := ev_m
  go_enter Tryd.func22, Tryd.ntmps22
  go_wp2
  go_loop [10] (fun i => ∃ k : Nat, k ≤ s.size ∧ i = .int .i64 k ∧ mkA (s.data.toList.take k) = true) (fun i => s.size - (intOf i).toNat)
  case atStart => exact ⟨0, by omega, rfl, rfl⟩
  case round =>
    obtain ⟨k, hk, rfl, hal⟩ := hrel
    have HA := Lib.hid hal
    clear hal
    by_cases hlt : k < s.size
    · have h0 : 0 ≤ ((s[k].toNat : Nat) : Int) := by omega
      have h1 : ((s[k].toNat : Nat) : Int) ≤ 255 := by have := s[k].toNat_lt; omega
      have HM := Lib.hid (fun W => inMark_c ((s[k].toNat : Nat) : Int) W h0 h1)
      rw [mkI_mkB] at HM
      cases hb : mkB s[k] with
      | true =>
        have HB := Lib.hid (mkA_step hlt HA.out hb)
        rw [hb] at HM
        clear hb
        go_wp2_with (go_at_call 23; refine (HM.out _).mono ?_; rintro e w' ⟨rfl, rfl⟩)
        go_round
        case rel => exact ⟨k + 1, by omega, by go_num, HB.out⟩
        case measure => simp [intOf]; omega
      | false =>
        have HB := Lib.hid (all_no hlt hb)
        rw [hb] at HM
        clear hb
        go_wp2_with (go_at_call 23; refine (HM.out _).mono ?_; rintro e w' ⟨rfl, rfl⟩)
        go_ret
        exact ⟨ret_b (by unfold mkA; rw [HB.out]), rfl⟩
    · go_wp2
      go_ret
      exact ⟨ret_b (by have h := HA.out; rw [List.take_of_length_le (by rw [← hsl.out]; omega)] at h; rw [h]), rfl⟩
set_option maxRecDepth 100000 in
set_option maxHeartbeats 2000000 in
theorem right_r (s : ByteArray) (w : World) (hs : s.size ≤ 1000) : Calls Tryd.prog 10 #[.string s] w fun e w' => e = .returned (.bool (mkA s.data.toList)) ∧ w = w' := by
  have hsl := Lib.hid (Lib.size_eq s)
  go_enter Tryd.func10, Tryd.ntmps10
  go_wp2
  go_loop [3] (fun i => ∃ k : Nat, k ≤ s.size ∧ i = .int .i64 k ∧ mkA (s.data.toList.take k) = true) (fun i => s.size - (intOf i).toNat)
  case atStart => exact ⟨0, by omega, rfl, rfl⟩
  case round =>
    obtain ⟨k, hk, rfl, hal⟩ := hrel
    have HA := Lib.hid hal
    clear hal
    by_cases hlt : k < s.size
    · have h0 : 0 ≤ ((s[k].toNat : Nat) : Int) := by omega
      have h1 : ((s[k].toNat : Nat) : Int) ≤ 255 := by have := s[k].toNat_lt; omega
      have HM := Lib.hid (fun W => byte_r ((s[k].toNat : Nat) : Int) W h0 h1)
      rw [mkI_mkB] at HM
      cases hb : mkB s[k] with
      | true =>
        have HB := Lib.hid (mkA_step hlt HA.out hb)
        rw [hb] at HM
        clear hb
        go_wp2_with (go_at_call 24; refine (HM.out _).mono ?_; rintro e w' ⟨rfl, rfl⟩)
        go_round
        case rel => exact ⟨k + 1, by omega, by go_num, HB.out⟩
        case measure => simp [intOf]; omega
      | false =>
        have HB := Lib.hid (all_no hlt hb)
        rw [hb] at HM
        clear hb
        go_wp2_with (go_at_call 24; refine (HM.out _).mono ?_; rintro e w' ⟨rfl, rfl⟩)
        go_ret
        exact ⟨ret_b (by unfold mkA; rw [HB.out]), rfl⟩
    · go_wp2
      go_ret
      exact ⟨ret_b (by have h := HA.out; rw [List.take_of_length_le (by rw [← hsl.out]; omega)] at h; rw [h]), rfl⟩
end Go.Proofs.YtojmjdgapfcjfaaDoor.Et
