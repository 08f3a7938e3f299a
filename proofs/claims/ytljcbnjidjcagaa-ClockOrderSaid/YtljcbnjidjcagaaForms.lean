/- Contracts of Digit, formed and number, and of the document's own Digit and value: for every text of at most forty bytes (number: of at most nine digits). -/
import Derived.Test.YtljcbnjidjcagaaPrintsR
import Derived.Deep.QuietTactic
import Derived.BigQuiet
import Derived.WalkSmall
namespace Go.Proofs.Ytljcbnjidjcagaa
open Go.RowKit
set_option linter.unusedSimpArgs false
set_option linter.unusedVariables false

def digB (c : Int) : Bool := decide (48 ≤ c ∧ c ≤ 57)
theorem isD_eq (b : UInt8) : isD b = digB (b.toNat : Int) := rfl
theorem two_t {c lo hi : Int} (h : lo ≤ c) : decide (c ≤ hi) = decide (lo ≤ c ∧ c ≤ hi) := by simp [h]
theorem two_f {c lo hi : Int} (h : c < lo) : false = (decide (lo ≤ c) && decide (c ≤ hi)) := by
  have : decide (lo ≤ c) = false := by simp; omega
  rw [this]; rfl
theorem dig_c (c : Int) (w : World) : Calls Try.prog 29 #[.int .u8 c] w fun e w' => e = .returned (.bool (digB c)) ∧ w = w' := by
  unfold digB
  by_cases h1 : 48 ≤ c
  · go_enter Try.func29, Try.ntmps29
    go_wp2
    go_ret
    exact ⟨ret_bool (two_t h1), rfl⟩
  · go_enter Try.func29, Try.ntmps29
    go_wp2
    go_ret
    exact ⟨ret_bool (two_f h1), rfl⟩
theorem is_r (c lo hi : Int) (w : World) (h0 : 0 ≤ c) (h9 : c ≤ 255) : Calls Try.prog 31 #[.int .u8 c, .int .i64 lo, .int .i64 hi] w fun e w' => e = .returned (.bool (decide (lo ≤ c ∧ c ≤ hi))) ∧ w = w' := by
  by_cases h1 : lo ≤ c
  · go_enter Try.func31, Try.ntmps31
    go_wp2
    go_ret
    exact ⟨ret_bool (two_t h1), rfl⟩
  · go_enter Try.func31, Try.ntmps31
    go_wp2
    go_ret
    exact ⟨ret_bool (two_f h1), rfl⟩
theorem dig_r (c : Int) (w : World) (h0 : 0 ≤ c) (h1 : c ≤ 255) : Calls Try.prog 30 #[.int .u8 c] w fun e w' => e = .returned (.bool (digB c)) ∧ w = w' := by
  go_enter Try.func30, Try.ntmps30
  go_wp2_with (go_at_call 31; refine (is_r _ _ _ _ h0 h1).mono ?_; rintro e w' ⟨rfl, rfl⟩)
  go_ret
  exact ⟨ret_bool (by simp [digB]), rfl⟩

/-- a text of at most nine digits -/
def NumT (t : ByteArray) : Prop := t.size ≤ 9 ∧ t.data.toList.all isD = true
theorem numL_k (l : List UInt8) (hd : l.all isD = true) (k : Nat) (hk : k ≤ l.length) (h9 : k ≤ 9) : 0 ≤ numL (l.take k) ∧ numL (l.take k) < 1000000000 := by
  obtain ⟨_, h1, h2⟩ := numL_take l hd k hk
  refine ⟨h1, Int.lt_of_lt_of_le h2 ?_⟩
  match k, h9 with
  | 0, _ | 1, _ | 2, _ | 3, _ | 4, _ | 5, _ | 6, _ | 7, _ | 8, _ | 9, _ => decide

set_option maxHeartbeats 1000000 in
theorem number_c (s : ByteArray) (w : World) (h : NumT s) : Calls Try.prog 23 #[.string s] w fun e w' => e = .returned (.int .i64 (numL s.data.toList)) ∧ w' = w := by
  obtain ⟨hs, hd⟩ := h
  have HD := Lib.hid hd
  have hsl := Lib.hid (Lib.size_eq s)
  clear hd
  go_enter Try.func23, Try.ntmps23
  go_wp2
  go_loop [3, 7] (fun v i => ∃ k : Nat, k ≤ s.size ∧ i = .int .i64 k ∧ v = .int .i64 (numL (s.data.toList.take k))) (fun _ i => s.size - (intOf i).toNat)
  case atStart => exact ⟨0, by omega, rfl, rfl⟩
  case round =>
    obtain ⟨k, hk, rfl, rfl⟩ := hrel
    obtain ⟨b0, b1⟩ := numL_k _ HD.out k (by rw [← hsl.out]; exact hk) (by omega)
    by_cases hlt : k < s.size
    · have HS : Hid (numL (s.data.toList.take (k + 1)) = 10 * numL (s.data.toList.take k) + ((s[k].toNat : Int) - 48)) := by
        show numL (s.data.toList.take (k + 1)) = 10 * numL (s.data.toList.take k) + ((s[k].toNat : Int) - 48)
        rw [take_snoc hlt, numL_snoc]
      have hb : isD s[k] = true := List.all_eq_true.1 HD.out _ (by rw [← gdat s k hlt]; exact List.getElem_mem _)
      obtain ⟨d0, d1⟩ := of_decide_eq_true hb
      clear hb
      go_wp2
      go_round
      case rel => exact ⟨k + 1, by omega, by go_num, by rw [HS.out]⟩
      case measure => simp [intOf]; omega
    · go_wp2
      go_ret
      exact ⟨ret_int (by rw [List.take_of_length_le (by rw [← hsl.out]; omega)]), rfl⟩

/-- what the document's value tells of a text -/
def valL (l : List UInt8) : Int := if l.all isD then numL l else -1
theorem valL_no {s : ByteArray} {k : Nat} (hk : k < s.size) (h : isD s[k] = false) : valL s.data.toList = -1 := by
  unfold valL
  rw [if_neg]
  intro ha
  have := List.all_eq_true.1 ha s[k] (by rw [← gdat s k hk]; exact List.getElem_mem _)
  rw [h] at this
  cases this
set_option maxHeartbeats 1000000 in
theorem value_r (s : ByteArray) (w : World) (hs : s.size ≤ 9) : Calls Try.prog 25 #[.string s] w fun e w' => e = .returned (.int .i64 (valL s.data.toList)) ∧ w = w' := by
  have hsl := Lib.hid (Lib.size_eq s)
  go_enter Try.func25, Try.ntmps25
  go_wp2
  go_loop [3, 4] (fun v i => ∃ k : Nat, k ≤ s.size ∧ i = .int .i64 k ∧ v = .int .i64 (numL (s.data.toList.take k)) ∧ (s.data.toList.take k).all isD = true) (fun _ i => s.size - (intOf i).toNat)
  case atStart => exact ⟨0, by omega, rfl, rfl, rfl⟩
  case round =>
    obtain ⟨k, hk, rfl, rfl, hal⟩ := hrel
    have HA := Lib.hid hal
    have hll : (s.data.toList.take k).length = k := by rw [List.length_take, ← hsl.out]; omega
    obtain ⟨b0, b1⟩ := numL_k _ hal k (by omega) (by omega)
    rw [List.take_take, Nat.min_self] at b0 b1
    clear hal hll
    by_cases hlt : k < s.size
    · have h0 : 0 ≤ ((s[k].toNat : Nat) : Int) := by omega
      have h1 : ((s[k].toNat : Nat) : Int) ≤ 255 := by have := s[k].toNat_lt; omega
      have HTS := Lib.hid (take_snoc hlt)
      cases hb : digB (s[k].toNat : Int) with
      | true =>
        have HB := Lib.hid hb
        obtain ⟨d0, d1⟩ := of_decide_eq_true hb
        go_wp2_with (go_at_call 30; refine (dig_r _ _ h0 h1).mono ?_; rintro e w' ⟨rfl, rfl⟩)
        go_round
        case rel => exact ⟨k + 1, by omega, by go_num, by rw [HTS.out, numL_snoc]; go_num, by rw [HTS.out, List.all_append, HA.out]; simp [isD_eq, HB.out]⟩
        case measure => simp [intOf]; omega
      | false =>
        have HB := Lib.hid hb
        go_wp2_with (go_at_call 30; refine (dig_r _ _ h0 h1).mono ?_; rintro e w' ⟨rfl, rfl⟩)
        go_ret
        exact ⟨ret_int (valL_no hlt HB.out).symm, rfl⟩
    · go_wp2
      go_ret
      exact ⟨ret_int (by have h := HA.out; rw [List.take_of_length_le (by rw [← hsl.out]; omega)] at h ⊢; unfold valL; rw [if_pos h]), rfl⟩

def okAt (l : List UInt8) (j : Nat) : Bool := if isD (formL.getD j 0) then isD (l.getD j 0) else decide (l.getD j 0 = formL.getD j 0)
def formB (l : List UInt8) : Bool := decide (l.length = 20) && (List.range 20).all (okAt l)
theorem form_iff (l : List UInt8) : formB l = true ↔ (l.length = 20 ∧ ∀ j, j < 20 → okAt l j = true) := by
  unfold formB
  rw [Bool.and_eq_true, decide_eq_true_eq, List.all_eq_true]
  simp only [List.mem_range]
theorem form_no (l : List UInt8) (h : ¬ (l.length = 20 ∧ ∀ j, j < 20 → okAt l j = true)) : formB l = false := by
  cases e : formB l with
  | false => rfl
  | true => exact absurd ((form_iff l).1 e) h
theorem getD_at (s : ByteArray) (k : Nat) (h : k < s.size) : s.data.toList.getD k 0 = s[k] := by
  rw [List.getD, Lib.data_getElem? s k h]; rfl
theorem ok_d {s : ByteArray} {k : Nat} (h : k < s.size) {f : UInt8} (hf : formL.getD k 0 = f) (hd : isD f = true) : okAt s.data.toList k = isD s[k] := by
  unfold okAt; rw [hf, if_pos hd, getD_at s k h]
theorem ok_s {s : ByteArray} {k : Nat} (h : k < s.size) {f : UInt8} (hf : formL.getD k 0 = f) (hd : isD f = false) : okAt s.data.toList k = ((s[k].toNat : Int) == (f.toNat : Int)) := by
  unfold okAt; rw [hf, hd, getD_at s k h]
  rw [Bool.eq_iff_iff]
  simp only [Bool.false_eq_true, if_false, decide_eq_true_eq, beq_iff_eq]
  constructor
  · intro e; rw [e]
  · intro e; apply UInt8.toNat_inj.1; omega

set_option maxHeartbeats 2000000 in
theorem formed_c (s : ByteArray) (w : World) (hs : s.size ≤ 1000) : Calls Try.prog 22 #[.string s] w fun e w' => e = .returned (.bool (formB s.data.toList)) ∧ Below w.heap.size w w' := by
  have hsl := Lib.hid (Lib.size_eq s)
  by_cases h20 : s.size = 20
  · have H20 := Lib.hid h20
    have h20' : ((s.size : Int) != 20) = false := by simp [h20]
    clear h20
    go_enter Try.func22, Try.ntmps22
    generalize hF : (ByteArray.mk #[48, 48, 48, 48, 45, 48, 48, 45, 48, 48, 84, 48, 48, 58, 48, 48, 58, 48, 48, 90]) = F
    have HF : Hid (F = mkS formL) := hF.symm
    have hFs : F.size = 20 := by rw [HF.out]; rfl
    clear hF
    go_wp2
    go_loopw [7] (fun i wr => ∃ k : Nat, k ≤ 20 ∧ i = .int .i64 k ∧ (∀ j, j < k → okAt s.data.toList j = true) ∧ Below w.heap.size w wr) (fun i _ => 20 - (intOf i).toNat)
    case atStart => exact ⟨0, by omega, rfl, fun j hj => by omega, Below.refl _ _⟩
    case round =>
      obtain ⟨k, hk, rfl, hal, hB⟩ := hrel
      have HA := Lib.hid hal
      have HB := Lib.hid hB
      clear hal hB
      by_cases hlt : k < 20
      · have hks : k < s.size := by have := H20.out; omega
        have hkF : k < F.size := by omega
        have HFk : Hid (formL.getD k 0 = F[k]) := by
          show formL.getD k 0 = F[k]
          rw [← getD_at F k hkF]
          have e := HF.out
          rw [e, data_mkS]
        cases hd : digB (F[k].toNat : Int) with
        | true =>
          have HO := Lib.hid (ok_d hks HFk.out hd)
          cases hb : digB (s[k].toNat : Int) with
          | true =>
            have HBB := Lib.hid hb
            go_wp2_with (go_at_call 29; refine (dig_c _ _).mono ?_; rintro e w' ⟨rfl, rfl⟩)
            go_roundw
            case rel => exact ⟨k + 1, by omega, by go_num, fun j hj => by
              by_cases e : j = k
              · subst e; rw [HO.out]; exact HBB.out
              · exact HA.out j (by omega), HB.out⟩
            case measure => simp [intOf]; omega
          | false =>
            have HBB := Lib.hid hb
            go_wp2_with (go_at_call 29; refine (dig_c _ _).mono ?_; rintro e w' ⟨rfl, rfl⟩)
            go_ret
            refine ⟨ret_bool ?_, HB.out⟩
            symm
            apply form_no
            intro h
            have := h.2 k hlt
            rw [HO.out, isD_eq, HBB.out] at this
            cases this
        | false =>
          have HO := Lib.hid (ok_s hks HFk.out hd)
          cases hb : ((s[k].toNat : Int) == (F[k].toNat : Int)) with
          | true =>
            have HBB := Lib.hid hb
            have hb2 : ((s[k].toNat : Int) != (F[k].toNat : Int)) = false := by rw [bne, hb]; rfl
            go_wp2_with (go_at_call 29; refine (dig_c _ _).mono ?_; rintro e w' ⟨rfl, rfl⟩)
            go_quiet (fail)
            go_wp2
            go_roundw
            case rel => exact ⟨k + 1, by omega, by go_num, fun j hj => by
              by_cases e : j = k
              · subst e; rw [HO.out]; exact HBB.out
              · exact HA.out j (by omega), below_drewN HB.out _⟩
            case measure => simp [intOf]; omega
          | false =>
            have HBB := Lib.hid hb
            have hb2 : ((s[k].toNat : Int) != (F[k].toNat : Int)) = true := by rw [bne, hb]; rfl
            go_wp2_with (go_at_call 29; refine (dig_c _ _).mono ?_; rintro e w' ⟨rfl, rfl⟩)
            go_quiet (fail)
            go_wp2
            go_ret
            refine ⟨ret_bool ?_, below_drewN HB.out _⟩
            symm
            apply form_no
            intro h
            have := h.2 k hlt
            rw [HO.out, HBB.out] at this
            cases this
      · go_wp2
        go_ret
        refine ⟨ret_bool ?_, HB.out⟩
        symm
        apply (form_iff _).2
        exact ⟨by rw [← hsl.out]; exact H20.out, fun j hj => HA.out j (by omega)⟩
  · have h20' : ((s.size : Int) != 20) = true := by simp; omega
    have HE : Hid (formB s.data.toList = false) := form_no _ (fun h => h20 (by rw [hsl.out]; exact h.1))
    clear h20
    go_enter Try.func22, Try.ntmps22
    go_wp2
    go_ret
    exact ⟨ret_bool HE.out.symm, Below.refl _ _⟩
end Go.Proofs.Ytljcbnjidjcagaa
