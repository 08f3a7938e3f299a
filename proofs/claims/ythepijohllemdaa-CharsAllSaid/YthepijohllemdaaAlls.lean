/- Contracts of All of package chars, at Token, at Digit and at nil: for every text of at most a thousand bytes. -/
import Derived.Test.YthepijohllemdaaCuts
namespace Go.Proofs.Ythepijohllemdaa
open Go.RowKit
set_option linter.unusedSimpArgs false
set_option linter.unusedVariables false

theorem all_no {s : ByteArray} {k : Nat} {p : UInt8 → Bool} (hk : k < s.size) (h : p s[k] = false) : s.data.toList.all p = false := by
  rw [List.all_eq_false]
  exact ⟨s[k], by rw [← gdat s k hk]; exact List.getElem_mem _, by simp [h]⟩
def tokBL (l : List UInt8) : Bool := l.all (fun b => tokB (b.toNat : Int))
def digBL (l : List UInt8) : Bool := l.all (fun b => digB (b.toNat : Int))
theorem ev_7 : ∀ W : World, (binOp .eql 22 (.func (.func 7) #[] #[]) .nilFunc).run Try.prog W = .ok (.bool false) W := fun _ => by kernel_rfl
theorem ev_9 : ∀ W : World, (binOp .eql 22 (.func (.func 9) #[] #[]) .nilFunc).run Try.prog W = .ok (.bool false) W := fun _ => by kernel_rfl
theorem ev_nil : ∀ W : World, (binOp .eql 22 .nilFunc .nilFunc).run Try.prog W = .ok (.bool true) W := fun _ => by kernel_rfl

set_option maxHeartbeats 2000000 in
theorem all_tok (s : ByteArray) (w : World) (hs : s.size ≤ 1000) : Calls Try.prog 19 #[.string s, .func (.func 7) #[] #[]] w fun e w' => e = .returned (.bool (tokBL s.data.toList)) ∧ w = w' := by
  have hsl := Lib.hid (Lib.size_eq s)
  have hev := ev_7
  go_enter Try.func19, Try.ntmps19
  go_wp2
  go_loop [10] (fun i => ∃ k : Nat, k ≤ s.size ∧ i = .int .i64 k ∧ tokBL (s.data.toList.take k) = true) (fun i => s.size - (intOf i).toNat)
  case atStart => exact ⟨0, by omega, rfl, rfl⟩
  case round =>
    obtain ⟨k, hk, rfl, hal⟩ := hrel
    have HA := Lib.hid hal
    clear hal
    by_cases hlt : k < s.size
    · have h0 : 0 ≤ ((s[k].toNat : Nat) : Int) := by omega
      have h1 : ((s[k].toNat : Nat) : Int) ≤ 255 := by have := s[k].toNat_lt; omega
      cases hb : tokB (s[k].toNat : Int) with
      | true =>
        have HB := Lib.hid hb
        go_wp2_with (go_at_call 7; refine (tok_c _ _ h0 h1).mono ?_; rintro e w' ⟨rfl, rfl⟩)
        go_round
        case rel => exact ⟨k + 1, by omega, by go_num, by rw [take_snoc hlt]; have h := HA.out; unfold tokBL at *; rw [List.all_append, h]; simp [HB.out]⟩
        case measure => simp [intOf]; omega
      | false =>
        have HB := Lib.hid hb
        go_wp2_with (go_at_call 7; refine (tok_c _ _ h0 h1).mono ?_; rintro e w' ⟨rfl, rfl⟩)
        go_ret
        exact ⟨ret_bool (all_no (p := fun b => tokB (b.toNat : Int)) hlt HB.out).symm, rfl⟩
    · go_wp2
      go_ret
      exact ⟨ret_bool (by have h := HA.out; rw [List.take_of_length_le (by rw [← hsl.out]; omega)] at h; rw [h]), rfl⟩

set_option maxHeartbeats 2000000 in
theorem all_dig (s : ByteArray) (w : World) (hs : s.size ≤ 1000) : Calls Try.prog 19 #[.string s, .func (.func 9) #[] #[]] w fun e w' => e = .returned (.bool (digBL s.data.toList)) ∧ w = w' := by
  have hsl := Lib.hid (Lib.size_eq s)
  have hev := ev_9
  go_enter Try.func19, Try.ntmps19
  go_wp2
  go_loop [10] (fun i => ∃ k : Nat, k ≤ s.size ∧ i = .int .i64 k ∧ digBL (s.data.toList.take k) = true) (fun i => s.size - (intOf i).toNat)
  case atStart => exact ⟨0, by omega, rfl, rfl⟩
  case round =>
    obtain ⟨k, hk, rfl, hal⟩ := hrel
    have HA := Lib.hid hal
    clear hal
    by_cases hlt : k < s.size
    · have h0 : 0 ≤ ((s[k].toNat : Nat) : Int) := by omega
      have h1 : ((s[k].toNat : Nat) : Int) ≤ 255 := by have := s[k].toNat_lt; omega
      cases hb : digB (s[k].toNat : Int) with
      | true =>
        have HB := Lib.hid hb
        go_wp2_with (go_at_call 9; refine (dig_c _ _).mono ?_; rintro e w' ⟨rfl, rfl⟩)
        go_round
        case rel => exact ⟨k + 1, by omega, by go_num, by rw [take_snoc hlt]; have h := HA.out; unfold digBL at *; rw [List.all_append, h]; simp [HB.out]⟩
        case measure => simp [intOf]; omega
      | false =>
        have HB := Lib.hid hb
        go_wp2_with (go_at_call 9; refine (dig_c _ _).mono ?_; rintro e w' ⟨rfl, rfl⟩)
        go_ret
        exact ⟨ret_bool (all_no (p := fun b => digB (b.toNat : Int)) hlt HB.out).symm, rfl⟩
    · go_wp2
      go_ret
      exact ⟨ret_bool (by have h := HA.out; rw [List.take_of_length_le (by rw [← hsl.out]; omega)] at h; rw [h]), rfl⟩

theorem all_nil (s : ByteArray) (w : World) : Calls Try.prog 19 #[.string s, .nilFunc] w fun e w' => e = .returned (.bool false) ∧ w = w' := by
  have hev := ev_nil
  go_enter Try.func19, Try.ntmps19
  go_wp2
  go_ret
  exact ⟨rfl, rfl⟩
end Go.Proofs.Ythepijohllemdaa
