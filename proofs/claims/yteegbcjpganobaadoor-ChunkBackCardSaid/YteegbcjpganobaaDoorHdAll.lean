/- Lines' ends, fields' bytes: the plain part, and contracts of All at three questions, for every text of at most a thousand bytes. -/
import Derived.Test.YteegbcjpganobaaDoorChLowers
import Derived.Test.YteegbcjpganobaaDoorNuShelf
import Derived.WalkSmall
import Derived.Deep.QuietTactic
import Derived.BigQuiet
import Derived.Deep.RegionHeld3
import Derived.Deep.Onto
import Derived.Shelf.Strings.Cut
import Derived.Shelf.Strings.Prefix
import Derived.Shelf.Strings.Split
import Derived.Shelf.Strings.Search2
import Derived.Laws.StructEq
namespace Go.Proofs.YteegbcjpganobaaDoor.Hd
open Go.RowKit Ch
set_option linter.unusedSimpArgs false
set_option linter.unusedVariables false

theorem ret_b {a b : Bool} (h : a = b) : Ending.returned (.bool a) = .returned (.bool b) := by rw [h]
theorem ret_str {a b : ByteArray} (h : a = b) : Ending.returned (.string a) = .returned (.string b) := by rw [h]
def tokU (c : UInt8) : Bool := tokB (c.toNat : Int)
def visU (c : UInt8) : Bool := visB (c.toNat : Int)
def valI (c : Int) : Bool := decide (c = 9) || (decide (32 ≤ c) && decide (c ≠ 127))
def valU (c : UInt8) : Bool := valI (c.toNat : Int)
def allU (p : UInt8 → Bool) (l : List UInt8) : Bool := l.all p
theorem all_no {p : UInt8 → Bool} {s : ByteArray} {k : Nat} (hk : k < s.size) (h : p s[k] = false) : allU p s.data.toList = false := by
  unfold allU
  rw [List.all_eq_false]
  exact ⟨s[k], by rw [← gdat s k hk]; exact List.getElem_mem _, by simp [h]⟩
theorem all_step {p : UInt8 → Bool} {s : ByteArray} {k : Nat} (hk : k < s.size) (h : allU p (s.data.toList.take k) = true) (hb : p s[k] = true) : allU p (s.data.toList.take (k + 1)) = true := by
  have hl : k < s.data.toList.length := by rw [← Lib.size_eq]; exact hk
  unfold allU at *
  rw [List.take_succ_eq_append_getElem hl, List.all_append, h, gdat s k hk]
  simp [hb]
set_option maxRecDepth 100000 in
set_option maxHeartbeats 1000000 in
theorem val_c (c : Int) (w : World) (h0 : 0 ≤ c) (h1 : c ≤ 255) : Calls Tryd.prog 56 #[.int .u8 c] w fun e w' => e = .returned (.bool (valI c)) ∧ w = w' := by
  have HS := Lib.hid (fun W => spa_c c W)
  have HV := Lib.hid (fun W => vis_c c W)
  have hv : valI c = (spaB c || visB c || decide (128 ≤ c)) := by
    unfold valI spaB visB
    rw [Bool.eq_iff_iff]
    simp
    omega
  cases hs : spaB c with
  | true =>
    rw [hs] at HS hv
    rw [hv]
    show Calls _ _ _ _ fun e w' => e = .returned (.bool true) ∧ _
    clear hv hs
    go_enter Tryd.func56, Tryd.ntmps56
    go_wp2_with fail
    refine (HS.out _).mono ?_
    rintro e w1 ⟨rfl, hw⟩
    rw [← hw]; clear hw
    go_wp2
    go_ret
    exact ⟨rfl, rfl⟩
  | false =>
    rw [hs] at HS hv
    cases hb : visB c with
    | true =>
      rw [hb] at HV hv
      rw [hv]
      show Calls _ _ _ _ fun e w' => e = .returned (.bool true) ∧ _
      clear hv hs hb
      go_enter Tryd.func56, Tryd.ntmps56
      go_wp2_with fail
      refine (HS.out _).mono ?_
      rintro e w1 ⟨rfl, hw⟩
      rw [← hw]; clear hw
      go_wp2_with fail
      refine (HV.out _).mono ?_
      rintro e w1 ⟨rfl, hw⟩
      rw [← hw]; clear hw
      go_wp2
      go_ret
      exact ⟨rfl, rfl⟩
    | false =>
      rw [hb] at HV hv
      rw [hv]
      show Calls _ _ _ _ fun e w' => e = .returned (.bool (decide (128 ≤ c))) ∧ _
      clear hv hs hb
      go_enter Tryd.func56, Tryd.ntmps56
      go_wp2_with fail
      refine (HS.out _).mono ?_
      rintro e w1 ⟨rfl, hw⟩
      rw [← hw]; clear hw
      go_wp2_with fail
      refine (HV.out _).mono ?_
      rintro e w1 ⟨rfl, hw⟩
      rw [← hw]; clear hw
      go_wp2
      go_ret
      exact ⟨rfl, rfl⟩
theorem ev_tok : ∀ W : World, (binOp .eql 75 (.func (.func 55) #[] #[]) .nilFunc).run Tryd.prog W = .ok (.bool false) W := fun _ => by kernel_rfl
set_option maxRecDepth 100000 in
set_option maxHeartbeats 2000000 in
theorem all_tok (s : ByteArray) (w : World) (hs : s.size ≤ 10000) : Calls Tryd.prog 38 #[.string s, .func (.func 55) #[] #[]] w fun e w' => e = .returned (.bool (allU tokU s.data.toList)) ∧ w = w' := by
  have hsl := Lib.hid (Lib.size_eq s)
  have hev := ev_tok
  go_enter Tryd.func38, Tryd.ntmps38
  go_wp2
  go_loop [10] (fun i => ∃ k : Nat, k ≤ s.size ∧ i = .int .i64 k ∧ allU tokU (s.data.toList.take k) = true) (fun i => s.size - (intOf i).toNat)
  case atStart => exact ⟨0, by omega, rfl, rfl⟩
  case round =>
    obtain ⟨k, hk, rfl, hal⟩ := hrel
    have HA := Lib.hid hal
    clear hal
    by_cases hlt : k < s.size
    · have h0 : 0 ≤ ((s[k].toNat : Nat) : Int) := by omega
      have h1 : ((s[k].toNat : Nat) : Int) ≤ 255 := by have := s[k].toNat_lt; omega
      have HM : Hid (∀ W, Calls Tryd.prog 55 #[.int .u8 ((s[k].toNat : Nat) : Int)] W fun e w' => e = .returned (.bool (tokU s[k])) ∧ W = w') := fun W => tok_c _ W h0 h1
      cases hb : tokU s[k] with
      | true =>
        have HB := Lib.hid (all_step hlt HA.out hb)
        rw [hb] at HM
        clear hb
        go_wp2_with (go_at_call 55; refine (HM.out _).mono ?_; rintro e w' ⟨rfl, rfl⟩)
        go_round
        case rel => exact ⟨k + 1, by omega, by go_num, HB.out⟩
        case measure => simp [intOf]; omega
      | false =>
        have HB := Lib.hid (all_no hlt hb)
        rw [hb] at HM
        clear hb
        go_wp2_with (go_at_call 55; refine (HM.out _).mono ?_; rintro e w' ⟨rfl, rfl⟩)
        go_ret
        exact ⟨ret_b HB.out.symm, rfl⟩
    · go_wp2
      go_ret
      exact ⟨ret_b (by have h := HA.out; rw [List.take_of_length_le (by rw [← hsl.out]; omega)] at h; rw [h]), rfl⟩
theorem ev_vis : ∀ W : World, (binOp .eql 75 (.func (.func 54) #[] #[]) .nilFunc).run Tryd.prog W = .ok (.bool false) W := fun _ => by kernel_rfl
set_option maxRecDepth 100000 in
set_option maxHeartbeats 2000000 in
theorem all_vis (s : ByteArray) (w : World) (hs : s.size ≤ 10000) : Calls Tryd.prog 38 #[.string s, .func (.func 54) #[] #[]] w fun e w' => e = .returned (.bool (allU visU s.data.toList)) ∧ w = w' := by
  have hsl := Lib.hid (Lib.size_eq s)
  have hev := ev_vis
  go_enter Tryd.func38, Tryd.ntmps38
  go_wp2
  go_loop [10] (fun i => ∃ k : Nat, k ≤ s.size ∧ i = .int .i64 k ∧ allU visU (s.data.toList.take k) = true) (fun i => s.size - (intOf i).toNat)
  case atStart => exact ⟨0, by omega, rfl, rfl⟩
  case round =>
    obtain ⟨k, hk, rfl, hal⟩ := hrel
    have HA := Lib.hid hal
    clear hal
    by_cases hlt : k < s.size
    · have h0 : 0 ≤ ((s[k].toNat : Nat) : Int) := by omega
      have h1 : ((s[k].toNat : Nat) : Int) ≤ 255 := by have := s[k].toNat_lt; omega
      have HM : Hid (∀ W, Calls Tryd.prog 54 #[.int .u8 ((s[k].toNat : Nat) : Int)] W fun e w' => e = .returned (.bool (visU s[k])) ∧ W = w') := fun W => vis_c _ W
      cases hb : visU s[k] with
      | true =>
        have HB := Lib.hid (all_step hlt HA.out hb)
        rw [hb] at HM
        clear hb
        go_wp2_with (go_at_call 54; refine (HM.out _).mono ?_; rintro e w' ⟨rfl, rfl⟩)
        go_round
        case rel => exact ⟨k + 1, by omega, by go_num, HB.out⟩
        case measure => simp [intOf]; omega
      | false =>
        have HB := Lib.hid (all_no hlt hb)
        rw [hb] at HM
        clear hb
        go_wp2_with (go_at_call 54; refine (HM.out _).mono ?_; rintro e w' ⟨rfl, rfl⟩)
        go_ret
        exact ⟨ret_b HB.out.symm, rfl⟩
    · go_wp2
      go_ret
      exact ⟨ret_b (by have h := HA.out; rw [List.take_of_length_le (by rw [← hsl.out]; omega)] at h; rw [h]), rfl⟩
theorem ev_val : ∀ W : World, (binOp .eql 75 (.func (.func 56) #[] #[]) .nilFunc).run Tryd.prog W = .ok (.bool false) W := fun _ => by kernel_rfl
set_option maxRecDepth 100000 in
set_option maxHeartbeats 2000000 in
theorem all_val (s : ByteArray) (w : World) (hs : s.size ≤ 10000) : Calls Tryd.prog 38 #[.string s, .func (.func 56) #[] #[]] w fun e w' => e = .returned (.bool (allU valU s.data.toList)) ∧ w = w' := by
  have hsl := Lib.hid (Lib.size_eq s)
  have hev := ev_val
  go_enter Tryd.func38, Tryd.ntmps38
  go_wp2
  go_loop [10] (fun i => ∃ k : Nat, k ≤ s.size ∧ i = .int .i64 k ∧ allU valU (s.data.toList.take k) = true) (fun i => s.size - (intOf i).toNat)
  case atStart => exact ⟨0, by omega, rfl, rfl⟩
  case round =>
    obtain ⟨k, hk, rfl, hal⟩ := hrel
    have HA := Lib.hid hal
    clear hal
    by_cases hlt : k < s.size
    · have h0 : 0 ≤ ((s[k].toNat : Nat) : Int) := by omega
      have h1 : ((s[k].toNat : Nat) : Int) ≤ 255 := by have := s[k].toNat_lt; omega
      have HM : Hid (∀ W, Calls Tryd.prog 56 #[.int .u8 ((s[k].toNat : Nat) : Int)] W fun e w' => e = .returned (.bool (valU s[k])) ∧ W = w') := fun W => val_c _ W h0 h1
      cases hb : valU s[k] with
      | true =>
        have HB := Lib.hid (all_step hlt HA.out hb)
        rw [hb] at HM
        clear hb
        go_wp2_with (go_at_call 56; refine (HM.out _).mono ?_; rintro e w' ⟨rfl, rfl⟩)
        go_round
        case rel => exact ⟨k + 1, by omega, by go_num, HB.out⟩
        case measure => simp [intOf]; omega
      | false =>
        have HB := Lib.hid (all_no hlt hb)
        rw [hb] at HM
        clear hb
        go_wp2_with (go_at_call 56; refine (HM.out _).mono ?_; rintro e w' ⟨rfl, rfl⟩)
        go_ret
        exact ⟨ret_b HB.out.symm, rfl⟩
    · go_wp2
      go_ret
      exact ⟨ret_b (by have h := HA.out; rw [List.take_of_length_le (by rw [← hsl.out]; omega)] at h; rw [h]), rfl⟩
end Go.Proofs.YteegbcjpganobaaDoor.Hd
