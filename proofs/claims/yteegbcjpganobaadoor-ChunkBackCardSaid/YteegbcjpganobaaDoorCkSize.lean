/- The contract of package chunk's Size: for every line of at most five hundred bytes. -/
import Derived.Test.YteegbcjpganobaaDoorCkBase
import Derived.Shelf.Strings.SlTrimAscii
namespace Go.Proofs.YteegbcjpganobaaDoor.Hd
open Go.RowKit Ch
set_option linter.unusedSimpArgs false
set_option linter.unusedVariables false

set_option maxRecDepth 100000 in
set_option maxHeartbeats 1000000 in
theorem lin_c (c : Int) (w : World) (h0 : 0 ≤ c) (h1 : c ≤ 255) : Calls Tryd.prog 39 #[.int .u8 c] w fun e w' => e = .returned (.bool (valI c)) ∧ w = w' := by
  have HS := Lib.hid (fun W => spa_c c W)
  have HV := Lib.hid (fun W => vis_c c W)
  have hv : valI c = (spaB c || visB c || decide (128 ≤ c)) := by
    unfold valI spaB visB
    rw [Bool.eq_iff_iff]
    simp
    omega
  cases hs : spaB c with
  | true =>
    rw [hs] at HS hv
    rw [hv]
    show Calls _ _ _ _ fun e w' => e = .returned (.bool true) ∧ _
    clear hv hs
    go_enter Tryd.func39, Tryd.ntmps39
    go_wp2_with fail
    refine (HS.out _).mono ?_
    rintro e w1 ⟨rfl, hw⟩
    rw [← hw]; clear hw
    go_wp2
    go_ret
    exact ⟨rfl, rfl⟩
  | false =>
    rw [hs] at HS hv
    cases hb : visB c with
    | true =>
      rw [hb] at HV hv
      rw [hv]
      show Calls _ _ _ _ fun e w' => e = .returned (.bool true) ∧ _
      clear hv hs hb
      go_enter Tryd.func39, Tryd.ntmps39
      go_wp2_with fail
      refine (HS.out _).mono ?_
      rintro e w1 ⟨rfl, hw⟩
      rw [← hw]; clear hw
      go_wp2_with fail
      refine (HV.out _).mono ?_
      rintro e w1 ⟨rfl, hw⟩
      rw [← hw]; clear hw
      go_wp2
      go_ret
      exact ⟨rfl, rfl⟩
    | false =>
      rw [hb] at HV hv
      rw [hv]
      show Calls _ _ _ _ fun e w' => e = .returned (.bool (decide (128 ≤ c))) ∧ _
      clear hv hs hb
      go_enter Tryd.func39, Tryd.ntmps39
      go_wp2_with fail
      refine (HS.out _).mono ?_
      rintro e w1 ⟨rfl, hw⟩
      rw [← hw]; clear hw
      go_wp2_with fail
      refine (HV.out _).mono ?_
      rintro e w1 ⟨rfl, hw⟩
      rw [← hw]; clear hw
      go_wp2
      go_ret
      exact ⟨rfl, rfl⟩
theorem ev_lin : ∀ W : World, (binOp .eql 75 (.func (.func 39) #[] #[]) .nilFunc).run Tryd.prog W = .ok (.bool false) W := fun _ => by kernel_rfl
set_option maxRecDepth 100000 in
set_option maxHeartbeats 2000000 in
theorem all_lin (s : ByteArray) (w : World) (hs : s.size ≤ 10000) : Calls Tryd.prog 38 #[.string s, .func (.func 39) #[] #[]] w fun e w' => e = .returned (.bool (allU valU s.data.toList)) ∧ w = w' := by
  have hsl := Lib.hid (Lib.size_eq s)
  have hev := ev_lin
  go_enter Tryd.func38, Tryd.ntmps38
  go_wp2
  go_loop [10] (fun i => ∃ k : Nat, k ≤ s.size ∧ i = .int .i64 k ∧ allU valU (s.data.toList.take k) = true) (fun i => s.size - (intOf i).toNat)
  case atStart => exact ⟨0, by omega, rfl, rfl⟩
  case round =>
    obtain ⟨k, hk, rfl, hal⟩ := hrel
    have HA := Lib.hid hal
    clear hal
    by_cases hlt : k < s.size
    · have h0 : 0 ≤ ((s[k].toNat : Nat) : Int) := by omega
      have h1 : ((s[k].toNat : Nat) : Int) ≤ 255 := by have := s[k].toNat_lt; omega
      have HM : Hid (∀ W, Calls Tryd.prog 39 #[.int .u8 ((s[k].toNat : Nat) : Int)] W fun e w' => e = .returned (.bool (valU s[k])) ∧ W = w') := fun W => lin_c _ W h0 h1
      cases hb : valU s[k] with
      | true =>
        have HB := Lib.hid (all_step hlt HA.out hb)
        rw [hb] at HM
        clear hb
        go_wp2_with (go_at_call 39; refine (HM.out _).mono ?_; rintro e w' ⟨rfl, rfl⟩)
        go_round
        case rel => exact ⟨k + 1, by omega, by go_num, HB.out⟩
        case measure => simp [intOf]; omega
      | false =>
        have HB := Lib.hid (all_no hlt hb)
        rw [hb] at HM
        clear hb
        go_wp2_with (go_at_call 39; refine (HM.out _).mono ?_; rintro e w' ⟨rfl, rfl⟩)
        go_ret
        exact ⟨ret_b HB.out.symm, rfl⟩
    · go_wp2
      go_ret
      exact ⟨ret_b (by have h := HA.out; rw [List.take_of_length_le (by rw [← hsl.out]; omega)] at h; rw [h]), rfl⟩
theorem trim_c (s : ByteArray) (w : World) (hs : s.size ≤ 10000) : Calls Tryd.prog 36 #[.string s, .string ⟨#[32, 9]⟩] w fun e w' => e = .returned (.string (mkS (Lib.trimRightS s.data.toList [32, 9]))) ∧ Below w.heap.size w w' :=
  Any.strings_TrimRight_laid Tryd.lays162 (by kernel_rfl) s ⟨#[32, 9]⟩ w (by omega) (by decide) (ascii_of_all (by decide))
def szD (l : List UInt8) : List UInt8 := if 59 ∈ l then Lib.trimRightS (cutP 59 l).1 [32, 9] else (cutP 59 l).1
def szL (l : List UInt8) (most : Int) : Int × Int := if Nu.rdE 16 2147483647 (szD l) = 3 ∨ allU valU (cutP 59 l).2 = false then (0, 400) else if Nu.rdE 16 2147483647 (szD l) = 5 ∨ most < Nu.rdN 16 2147483647 (szD l) then (0, 413) else (Nu.rdN 16 2147483647 (szD l), 0)
set_option maxRecDepth 100000 in
set_option maxHeartbeats 1000000 in
theorem sz_tf (s d0 d bh : ByteArray) (most n e : Int) (w : World)
    (HC : Hid (∀ W, Calls Tryd.prog 35 #[.string s, .string ⟨#[59]⟩] W fun e w' => e = .returned (.tuple #[.string d0, .string bh, .bool true]) ∧ ∃ k, w' = W.drewN k))
    (HT : Hid (∀ W, Calls Tryd.prog 36 #[.string d0, .string ⟨#[32, 9]⟩] W fun e w' => e = .returned (.string d) ∧ Below W.heap.size W w'))
    (HH : Hid (∀ W, Calls Tryd.prog 37 #[.string d] W fun e' w' => e' = .returned (.tuple #[.int .i64 n, .int .i64 e]) ∧ W = w'))
    (h3 : (e == 3) = true) :
    Calls Tryd.prog 25 #[.string s, .int .i64 most] w fun e w' => e = .returned (.tuple #[.int .i64 0, .int .i64 400]) ∧ Below w.heap.size w w' := by
  go_enter Tryd.func25, Tryd.ntmps25
  go_wp2_with fail
  refine (HC.out _).mono ?_
  rintro e w0 ⟨rfl, nd, hw⟩
  have HB0 : Hid (Below w.heap.size w w0) := by show Below _ _ _; rw [hw]; exact ⟨rfl, rfl, rfl, Nat.le_refl _, fun _ _ => rfl⟩
  clear hw
  go_wp2_with fail
  refine (HT.out _).mono ?_
  rintro e w1 ⟨rfl, hb1⟩
  have HB := Lib.hid (HB0.out.trans (hb1.mono HB0.out.size))
  clear hb1
  go_wp2_with fail
  refine (HH.out _).mono ?_
  rintro e w2 ⟨rfl, hw⟩
  rw [← hw]; clear hw
  go_wp2
  go_ret2
  exact ⟨rfl, HB.out⟩
set_option maxRecDepth 100000 in
set_option maxHeartbeats 1000000 in
theorem sz_ta (s d0 d bh : ByteArray) (most n e : Int) (w : World)
    (HC : Hid (∀ W, Calls Tryd.prog 35 #[.string s, .string ⟨#[59]⟩] W fun e w' => e = .returned (.tuple #[.string d0, .string bh, .bool true]) ∧ ∃ k, w' = W.drewN k))
    (HT : Hid (∀ W, Calls Tryd.prog 36 #[.string d0, .string ⟨#[32, 9]⟩] W fun e w' => e = .returned (.string d) ∧ Below W.heap.size W w'))
    (HH : Hid (∀ W, Calls Tryd.prog 37 #[.string d] W fun e' w' => e' = .returned (.tuple #[.int .i64 n, .int .i64 e]) ∧ W = w'))
    (HA : Hid (∀ W, Calls Tryd.prog 38 #[.string bh, .func (.func 39) #[] #[]] W fun e w' => e = .returned (.bool false) ∧ W = w'))
    (h3 : (e == 3) = false) :
    Calls Tryd.prog 25 #[.string s, .int .i64 most] w fun e w' => e = .returned (.tuple #[.int .i64 0, .int .i64 400]) ∧ Below w.heap.size w w' := by
  go_enter Tryd.func25, Tryd.ntmps25
  go_wp2_with fail
  refine (HC.out _).mono ?_
  rintro e w0 ⟨rfl, nd, hw⟩
  have HB0 : Hid (Below w.heap.size w w0) := by show Below _ _ _; rw [hw]; exact ⟨rfl, rfl, rfl, Nat.le_refl _, fun _ _ => rfl⟩
  clear hw
  go_wp2_with fail
  refine (HT.out _).mono ?_
  rintro e w1 ⟨rfl, hb1⟩
  have HB := Lib.hid (HB0.out.trans (hb1.mono HB0.out.size))
  clear hb1
  go_wp2_with fail
  refine (HH.out _).mono ?_
  rintro e w2 ⟨rfl, hw⟩
  rw [← hw]; clear hw
  go_wp2_with fail
  refine (HA.out _).mono ?_
  rintro e w3 ⟨rfl, hw⟩
  rw [← hw]; clear hw
  go_wp2
  go_ret2
  exact ⟨rfl, HB.out⟩
set_option maxRecDepth 100000 in
set_option maxHeartbeats 1000000 in
theorem sz_tl (s d0 d bh : ByteArray) (most n e : Int) (w : World)
    (HC : Hid (∀ W, Calls Tryd.prog 35 #[.string s, .string ⟨#[59]⟩] W fun e w' => e = .returned (.tuple #[.string d0, .string bh, .bool true]) ∧ ∃ k, w' = W.drewN k))
    (HT : Hid (∀ W, Calls Tryd.prog 36 #[.string d0, .string ⟨#[32, 9]⟩] W fun e w' => e = .returned (.string d) ∧ Below W.heap.size W w'))
    (HH : Hid (∀ W, Calls Tryd.prog 37 #[.string d] W fun e' w' => e' = .returned (.tuple #[.int .i64 n, .int .i64 e]) ∧ W = w'))
    (HA : Hid (∀ W, Calls Tryd.prog 38 #[.string bh, .func (.func 39) #[] #[]] W fun e w' => e = .returned (.bool true) ∧ W = w'))
    (h3 : (e == 3) = false) (h5 : (e == 5) = true) :
    Calls Tryd.prog 25 #[.string s, .int .i64 most] w fun e w' => e = .returned (.tuple #[.int .i64 0, .int .i64 413]) ∧ Below w.heap.size w w' := by
  go_enter Tryd.func25, Tryd.ntmps25
  go_wp2_with fail
  refine (HC.out _).mono ?_
  rintro e w0 ⟨rfl, nd, hw⟩
  have HB0 : Hid (Below w.heap.size w w0) := by show Below _ _ _; rw [hw]; exact ⟨rfl, rfl, rfl, Nat.le_refl _, fun _ _ => rfl⟩
  clear hw
  go_wp2_with fail
  refine (HT.out _).mono ?_
  rintro e w1 ⟨rfl, hb1⟩
  have HB := Lib.hid (HB0.out.trans (hb1.mono HB0.out.size))
  clear hb1
  go_wp2_with fail
  refine (HH.out _).mono ?_
  rintro e w2 ⟨rfl, hw⟩
  rw [← hw]; clear hw
  go_wp2_with fail
  refine (HA.out _).mono ?_
  rintro e w3 ⟨rfl, hw⟩
  rw [← hw]; clear hw
  go_wp2
  go_ret2
  exact ⟨rfl, HB.out⟩
set_option maxRecDepth 100000 in
set_option maxHeartbeats 1000000 in
theorem sz_tm (s d0 d bh : ByteArray) (most n e : Int) (w : World)
    (HC : Hid (∀ W, Calls Tryd.prog 35 #[.string s, .string ⟨#[59]⟩] W fun e w' => e = .returned (.tuple #[.string d0, .string bh, .bool true]) ∧ ∃ k, w' = W.drewN k))
    (HT : Hid (∀ W, Calls Tryd.prog 36 #[.string d0, .string ⟨#[32, 9]⟩] W fun e w' => e = .returned (.string d) ∧ Below W.heap.size W w'))
    (HH : Hid (∀ W, Calls Tryd.prog 37 #[.string d] W fun e' w' => e' = .returned (.tuple #[.int .i64 n, .int .i64 e]) ∧ W = w'))
    (HA : Hid (∀ W, Calls Tryd.prog 38 #[.string bh, .func (.func 39) #[] #[]] W fun e w' => e = .returned (.bool true) ∧ W = w'))
    (h3 : (e == 3) = false) (h5 : (e == 5) = false) (hm : most < n) :
    Calls Tryd.prog 25 #[.string s, .int .i64 most] w fun e w' => e = .returned (.tuple #[.int .i64 0, .int .i64 413]) ∧ Below w.heap.size w w' := by
  go_enter Tryd.func25, Tryd.ntmps25
  go_wp2_with fail
  refine (HC.out _).mono ?_
  rintro e w0 ⟨rfl, nd, hw⟩
  have HB0 : Hid (Below w.heap.size w w0) := by show Below _ _ _; rw [hw]; exact ⟨rfl, rfl, rfl, Nat.le_refl _, fun _ _ => rfl⟩
  clear hw
  go_wp2_with fail
  refine (HT.out _).mono ?_
  rintro e w1 ⟨rfl, hb1⟩
  have HB := Lib.hid (HB0.out.trans (hb1.mono HB0.out.size))
  clear hb1
  go_wp2_with fail
  refine (HH.out _).mono ?_
  rintro e w2 ⟨rfl, hw⟩
  rw [← hw]; clear hw
  go_wp2_with fail
  refine (HA.out _).mono ?_
  rintro e w3 ⟨rfl, hw⟩
  rw [← hw]; clear hw
  go_wp2
  go_ret2
  exact ⟨rfl, HB.out⟩
set_option maxRecDepth 100000 in
set_option maxHeartbeats 1000000 in
theorem sz_to (s d0 d bh : ByteArray) (most n e : Int) (w : World)
    (HC : Hid (∀ W, Calls Tryd.prog 35 #[.string s, .string ⟨#[59]⟩] W fun e w' => e = .returned (.tuple #[.string d0, .string bh, .bool true]) ∧ ∃ k, w' = W.drewN k))
    (HT : Hid (∀ W, Calls Tryd.prog 36 #[.string d0, .string ⟨#[32, 9]⟩] W fun e w' => e = .returned (.string d) ∧ Below W.heap.size W w'))
    (HH : Hid (∀ W, Calls Tryd.prog 37 #[.string d] W fun e' w' => e' = .returned (.tuple #[.int .i64 n, .int .i64 e]) ∧ W = w'))
    (HA : Hid (∀ W, Calls Tryd.prog 38 #[.string bh, .func (.func 39) #[] #[]] W fun e w' => e = .returned (.bool true) ∧ W = w'))
    (h3 : (e == 3) = false) (h5 : (e == 5) = false) (hm : n ≤ most) :
    Calls Tryd.prog 25 #[.string s, .int .i64 most] w fun e w' => e = .returned (.tuple #[.int .i64 n, .int .i64 0]) ∧ Below w.heap.size w w' := by
  go_enter Tryd.func25, Tryd.ntmps25
  go_wp2_with fail
  refine (HC.out _).mono ?_
  rintro e w0 ⟨rfl, nd, hw⟩
  have HB0 : Hid (Below w.heap.size w w0) := by show Below _ _ _; rw [hw]; exact ⟨rfl, rfl, rfl, Nat.le_refl _, fun _ _ => rfl⟩
  clear hw
  go_wp2_with fail
  refine (HT.out _).mono ?_
  rintro e w1 ⟨rfl, hb1⟩
  have HB := Lib.hid (HB0.out.trans (hb1.mono HB0.out.size))
  clear hb1
  go_wp2_with fail
  refine (HH.out _).mono ?_
  rintro e w2 ⟨rfl, hw⟩
  rw [← hw]; clear hw
  go_wp2_with fail
  refine (HA.out _).mono ?_
  rintro e w3 ⟨rfl, hw⟩
  rw [← hw]; clear hw
  go_wp2
  go_ret2
  exact ⟨rfl, HB.out⟩
set_option maxRecDepth 100000 in
set_option maxHeartbeats 1000000 in
theorem sz_nf (s d0 d bh : ByteArray) (most n e : Int) (w : World)
    (HC : Hid (∀ W, Calls Tryd.prog 35 #[.string s, .string ⟨#[59]⟩] W fun e w' => e = .returned (.tuple #[.string d0, .string bh, .bool false]) ∧ ∃ k, w' = W.drewN k))
    (HH : Hid (∀ W, Calls Tryd.prog 37 #[.string d0] W fun e' w' => e' = .returned (.tuple #[.int .i64 n, .int .i64 e]) ∧ W = w'))
    (h3 : (e == 3) = true) :
    Calls Tryd.prog 25 #[.string s, .int .i64 most] w fun e w' => e = .returned (.tuple #[.int .i64 0, .int .i64 400]) ∧ Below w.heap.size w w' := by
  go_enter Tryd.func25, Tryd.ntmps25
  go_wp2_with fail
  refine (HC.out _).mono ?_
  rintro e w0 ⟨rfl, nd, hw⟩
  have HB0 : Hid (Below w.heap.size w w0) := by show Below _ _ _; rw [hw]; exact ⟨rfl, rfl, rfl, Nat.le_refl _, fun _ _ => rfl⟩
  clear hw
  have HB := HB0
  go_wp2_with fail
  refine (HH.out _).mono ?_
  rintro e w2 ⟨rfl, hw⟩
  rw [← hw]; clear hw
  go_wp2
  go_ret2
  exact ⟨rfl, HB.out⟩
set_option maxRecDepth 100000 in
set_option maxHeartbeats 1000000 in
theorem sz_na (s d0 d bh : ByteArray) (most n e : Int) (w : World)
    (HC : Hid (∀ W, Calls Tryd.prog 35 #[.string s, .string ⟨#[59]⟩] W fun e w' => e = .returned (.tuple #[.string d0, .string bh, .bool false]) ∧ ∃ k, w' = W.drewN k))
    (HH : Hid (∀ W, Calls Tryd.prog 37 #[.string d0] W fun e' w' => e' = .returned (.tuple #[.int .i64 n, .int .i64 e]) ∧ W = w'))
    (HA : Hid (∀ W, Calls Tryd.prog 38 #[.string bh, .func (.func 39) #[] #[]] W fun e w' => e = .returned (.bool false) ∧ W = w'))
    (h3 : (e == 3) = false) :
    Calls Tryd.prog 25 #[.string s, .int .i64 most] w fun e w' => e = .returned (.tuple #[.int .i64 0, .int .i64 400]) ∧ Below w.heap.size w w' := by
  go_enter Tryd.func25, Tryd.ntmps25
  go_wp2_with fail
  refine (HC.out _).mono ?_
  rintro e w0 ⟨rfl, nd, hw⟩
  have HB0 : Hid (Below w.heap.size w w0) := by show Below _ _ _; rw [hw]; exact ⟨rfl, rfl, rfl, Nat.le_refl _, fun _ _ => rfl⟩
  clear hw
  have HB := HB0
  go_wp2_with fail
  refine (HH.out _).mono ?_
  rintro e w2 ⟨rfl, hw⟩
  rw [← hw]; clear hw
  go_wp2_with fail
  refine (HA.out _).mono ?_
  rintro e w3 ⟨rfl, hw⟩
  rw [← hw]; clear hw
  go_wp2
  go_ret2
  exact ⟨rfl, HB.out⟩
set_option maxRecDepth 100000 in
set_option maxHeartbeats 1000000 in
theorem sz_nl (s d0 d bh : ByteArray) (most n e : Int) (w : World)
    (HC : Hid (∀ W, Calls Tryd.prog 35 #[.string s, .string ⟨#[59]⟩] W fun e w' => e = .returned (.tuple #[.string d0, .string bh, .bool false]) ∧ ∃ k, w' = W.drewN k))
    (HH : Hid (∀ W, Calls Tryd.prog 37 #[.string d0] W fun e' w' => e' = .returned (.tuple #[.int .i64 n, .int .i64 e]) ∧ W = w'))
    (HA : Hid (∀ W, Calls Tryd.prog 38 #[.string bh, .func (.func 39) #[] #[]] W fun e w' => e = .returned (.bool true) ∧ W = w'))
    (h3 : (e == 3) = false) (h5 : (e == 5) = true) :
    Calls Tryd.prog 25 #[.string s, .int .i64 most] w fun e w' => e = .returned (.tuple #[.int .i64 0, .int .i64 413]) ∧ Below w.heap.size w w' := by
  go_enter Tryd.func25, Tryd.ntmps25
  go_wp2_with fail
  refine (HC.out _).mono ?_
  rintro e w0 ⟨rfl, nd, hw⟩
  have HB0 : Hid (Below w.heap.size w w0) := by show Below _ _ _; rw [hw]; exact ⟨rfl, rfl, rfl, Nat.le_refl _, fun _ _ => rfl⟩
  clear hw
  have HB := HB0
  go_wp2_with fail
  refine (HH.out _).mono ?_
  rintro e w2 ⟨rfl, hw⟩
  rw [← hw]; clear hw
  go_wp2_with fail
  refine (HA.out _).mono ?_
  rintro e w3 ⟨rfl, hw⟩
  rw [← hw]; clear hw
  go_wp2
  go_ret2
  exact ⟨rfl, HB.out⟩
set_option maxRecDepth 100000 in
set_option maxHeartbeats 1000000 in
theorem sz_nm (s d0 d bh : ByteArray) (most n e : Int) (w : World)
    (HC : Hid (∀ W, Calls Tryd.prog 35 #[.string s, .string ⟨#[59]⟩] W fun e w' => e = .returned (.tuple #[.string d0, .string bh, .bool false]) ∧ ∃ k, w' = W.drewN k))
    (HH : Hid (∀ W, Calls Tryd.prog 37 #[.string d0] W fun e' w' => e' = .returned (.tuple #[.int .i64 n, .int .i64 e]) ∧ W = w'))
    (HA : Hid (∀ W, Calls Tryd.prog 38 #[.string bh, .func (.func 39) #[] #[]] W fun e w' => e = .returned (.bool true) ∧ W = w'))
    (h3 : (e == 3) = false) (h5 : (e == 5) = false) (hm : most < n) :
    Calls Tryd.prog 25 #[.string s, .int .i64 most] w fun e w' => e = .returned (.tuple #[.int .i64 0, .int .i64 413]) ∧ Below w.heap.size w w' := by
  go_enter Tryd.func25, Tryd.ntmps25
  go_wp2_with fail
  refine (HC.out _).mono ?_
  rintro e w0 ⟨rfl, nd, hw⟩
  have HB0 : Hid (Below w.heap.size w w0) := by show Below _ _ _; rw [hw]; exact ⟨rfl, rfl, rfl, Nat.le_refl _, fun _ _ => rfl⟩
  clear hw
  have HB := HB0
  go_wp2_with fail
  refine (HH.out _).mono ?_
  rintro e w2 ⟨rfl, hw⟩
  rw [← hw]; clear hw
  go_wp2_with fail
  refine (HA.out _).mono ?_
  rintro e w3 ⟨rfl, hw⟩
  rw [← hw]; clear hw
  go_wp2
  go_ret2
  exact ⟨rfl, HB.out⟩
set_option maxRecDepth 100000 in
set_option maxHeartbeats 1000000 in
theorem sz_no (s d0 d bh : ByteArray) (most n e : Int) (w : World)
    (HC : Hid (∀ W, Calls Tryd.prog 35 #[.string s, .string ⟨#[59]⟩] W fun e w' => e = .returned (.tuple #[.string d0, .string bh, .bool false]) ∧ ∃ k, w' = W.drewN k))
    (HH : Hid (∀ W, Calls Tryd.prog 37 #[.string d0] W fun e' w' => e' = .returned (.tuple #[.int .i64 n, .int .i64 e]) ∧ W = w'))
    (HA : Hid (∀ W, Calls Tryd.prog 38 #[.string bh, .func (.func 39) #[] #[]] W fun e w' => e = .returned (.bool true) ∧ W = w'))
    (h3 : (e == 3) = false) (h5 : (e == 5) = false) (hm : n ≤ most) :
    Calls Tryd.prog 25 #[.string s, .int .i64 most] w fun e w' => e = .returned (.tuple #[.int .i64 n, .int .i64 0]) ∧ Below w.heap.size w w' := by
  go_enter Tryd.func25, Tryd.ntmps25
  go_wp2_with fail
  refine (HC.out _).mono ?_
  rintro e w0 ⟨rfl, nd, hw⟩
  have HB0 : Hid (Below w.heap.size w w0) := by show Below _ _ _; rw [hw]; exact ⟨rfl, rfl, rfl, Nat.le_refl _, fun _ _ => rfl⟩
  clear hw
  have HB := HB0
  go_wp2_with fail
  refine (HH.out _).mono ?_
  rintro e w2 ⟨rfl, hw⟩
  rw [← hw]; clear hw
  go_wp2_with fail
  refine (HA.out _).mono ?_
  rintro e w3 ⟨rfl, hw⟩
  rw [← hw]; clear hw
  go_wp2
  go_ret2
  exact ⟨rfl, HB.out⟩
theorem Size_c (s : ByteArray) (most : Int) (w : World) (hs : s.size ≤ 10000) : Calls Tryd.prog 25 #[.string s, .int .i64 most] w fun e w' => e = .returned (.tuple #[.int .i64 (szL s.data.toList most).1, .int .i64 (szL s.data.toList most).2]) ∧ Below w.heap.size w w' := by
  have hcl := cutP_len 59 s.data.toList
  rw [← Lib.size_eq] at hcl
  have HC := Lib.hid (fun W => scut_c s 59 W hs)
  have HA := Lib.hid (fun W => all_lin (mkS (cutP 59 s.data.toList).2) W (by rw [size_mkS]; omega))
  rw [data_mkS] at HA
  unfold cutV at HC
  have hE : Nu.rdE 16 2147483647 (szD s.data.toList) = 0 ∨ Nu.rdE 16 2147483647 (szD s.data.toList) = 3 ∨ Nu.rdE 16 2147483647 (szD s.data.toList) = 5 := by
    unfold Nu.rdE; split
    · split
      · exact .inl rfl
      · exact .inr (.inr rfl)
    · exact .inr (.inl rfl)
  have hdl : (szD s.data.toList).length ≤ s.size := by
    unfold szD
    split
    · unfold Lib.trimRightS
      rw [List.length_reverse]
      have := (List.dropWhile_sublist (fun b => ([32, 9] : List UInt8).contains b) (l := (cutP 59 s.data.toList).1.reverse)).length_le
      rw [List.length_reverse] at this
      omega
    · omega
  have HH := Lib.hid (fun W => Nu.hex_c (mkS (szD s.data.toList)) W (by rw [size_mkS]; omega))
  rw [data_mkS] at HH
  unfold szL
  by_cases h59 : (59 : UInt8) ∈ s.data.toList
  · rw [decide_eq_true h59] at HC
    have hd : szD s.data.toList = Lib.trimRightS (cutP 59 s.data.toList).1 [32, 9] := by unfold szD; rw [if_pos h59]
    have HT := Lib.hid (fun W => trim_c (mkS (cutP 59 s.data.toList).1) W (by rw [size_mkS]; omega))
    rw [data_mkS, ← hd] at HT
    generalize Nu.rdE 16 2147483647 (szD s.data.toList) = e at *
    generalize Nu.rdN 16 2147483647 (szD s.data.toList) = n at *
    by_cases h3 : e = 3
    · rw [if_pos (.inl h3)]
      exact sz_tf s _ _ _ most n e w HC HT HH (beq_iff_eq.2 h3)
    · have h3' : (e == 3) = false := beq_eq_false_iff_ne.2 h3
      cases ha : allU valU (cutP 59 s.data.toList).2 with
      | false =>
        rw [ha] at HA
        rw [if_pos (.inr rfl)]
        exact sz_ta s _ _ _ most n e w HC HT HH HA h3'
      | true =>
        rw [ha] at HA
        rw [if_neg (by simp [h3])]
        by_cases h5 : e = 5
        · rw [if_pos (.inl h5)]
          exact sz_tl s _ _ _ most n e w HC HT HH HA h3' (beq_iff_eq.2 h5)
        · have h5' : (e == 5) = false := beq_eq_false_iff_ne.2 h5
          by_cases hm : most < n
          · rw [if_pos (.inr hm)]
            exact sz_tm s _ _ _ most n e w HC HT HH HA h3' h5' hm
          · rw [if_neg (by simp [h5, hm])]
            exact sz_to s _ _ _ most n e w HC HT HH HA h3' h5' (by omega)
  · rw [decide_eq_false h59] at HC
    have hd : szD s.data.toList = (cutP 59 s.data.toList).1 := by unfold szD; rw [if_neg h59]
    rw [← hd] at HC
    generalize Nu.rdE 16 2147483647 (szD s.data.toList) = e at *
    generalize Nu.rdN 16 2147483647 (szD s.data.toList) = n at *
    by_cases h3 : e = 3
    · rw [if_pos (.inl h3)]
      exact sz_nf s _ ⟨#[]⟩ _ most n e w HC HH (beq_iff_eq.2 h3)
    · have h3' : (e == 3) = false := beq_eq_false_iff_ne.2 h3
      cases ha : allU valU (cutP 59 s.data.toList).2 with
      | false =>
        rw [ha] at HA
        rw [if_pos (.inr rfl)]
        exact sz_na s _ ⟨#[]⟩ _ most n e w HC HH HA h3'
      | true =>
        rw [ha] at HA
        rw [if_neg (by simp [h3])]
        by_cases h5 : e = 5
        · rw [if_pos (.inl h5)]
          exact sz_nl s _ ⟨#[]⟩ _ most n e w HC HH HA h3' (beq_iff_eq.2 h5)
        · have h5' : (e == 5) = false := beq_eq_false_iff_ne.2 h5
          by_cases hm : most < n
          · rw [if_pos (.inr hm)]
            exact sz_nm s _ ⟨#[]⟩ _ most n e w HC HH HA h3' h5' hm
          · rw [if_neg (by simp [h5, hm])]
            exact sz_no s _ ⟨#[]⟩ _ most n e w HC HH HA h3' h5' (by omega)
end Go.Proofs.YteegbcjpganobaaDoor.Hd
