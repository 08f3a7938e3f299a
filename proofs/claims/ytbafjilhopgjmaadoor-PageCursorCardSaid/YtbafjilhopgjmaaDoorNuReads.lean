/- Contracts of digit and read of package num, by base ten and by base sixteen: for every text of at most a thousand bytes and every bound from 16 to 2^63. -/
import Derived.Test.YtbafjilhopgjmaaDoorRows
import Derived.Test.YtbafjilhopgjmaaDoorNuNums
import Derived.WalkKit
import Derived.WalkSpells
import Derived.Lib.Hide
import Derived.Lib.IndexBytes
import Derived.ChangeOld
namespace Go.Proofs.YtbafjilhopgjmaaDoor.Nu
open Go.RowKit
set_option linter.unusedSimpArgs false
set_option linter.unusedVariables false

theorem ret_bool {a b : Bool} (h : a = b) : Ending.returned (.bool a) = .returned (.bool b) := by rw [h]
theorem ret_int {k : IntKind} {a b : Int} (h : a = b) : Ending.returned (.int k a) = .returned (.int k b) := by rw [h]
theorem ret_str {a b : ByteArray} (h : a = b) : Ending.returned (.string a) = .returned (.string b) := by rw [h]
theorem ret2_ii {k k' : IntKind} {a b a' b' : Int} (h : a = b) (h' : a' = b') : Ending.returned (.tuple #[.int k a, .int k' a']) = .returned (.tuple #[.int k b, .int k' b']) := by rw [h, h']
theorem ret2_ib {k : IntKind} {a b : Int} {x : Bool} (h : a = b) : Ending.returned (.tuple #[.int k a, .bool x]) = .returned (.tuple #[.int k b, .bool x]) := by rw [h]
def mkS (l : List UInt8) : ByteArray := ⟨l.toArray⟩
theorem mkS_of {s : ByteArray} {l : List UInt8} (h : s.data.toList = l) : s = mkS l := by subst h; exact (Lib.mk_data s).symm
theorem data_mkS (l : List UInt8) : (mkS l).data.toList = l := rfl
theorem size_mkS (l : List UInt8) : (mkS l).size = l.length := by rw [Lib.size_eq, data_mkS]
theorem mkS_inj {a b : List UInt8} (h : mkS a = mkS b) : a = b := by have := congrArg (fun s : ByteArray => s.data.toList) h; simpa [data_mkS] using this
theorem app_data (a b : ByteArray) : (a ++ b).data.toList = a.data.toList ++ b.data.toList := by simp
theorem mkS_app (a b : List UInt8) : mkS a ++ mkS b = mkS (a ++ b) := mkS_of (by rw [app_data, data_mkS, data_mkS])
theorem toL (l : List UInt8) : (mkS l).toList = l := by rw [Lib.toList_data, data_mkS]
theorem gdat (s : ByteArray) (k : Nat) (h : k < s.size) : s.data.toList[k]'(by rw [← Lib.size_eq]; exact h) = s[k] := by
  have := Lib.data_getElem? s k h
  rw [List.getElem?_eq_getElem (by rw [← Lib.size_eq]; exact h)] at this
  exact Option.some.inj this
theorem take_snoc {s : ByteArray} {k : Nat} (hk : k < s.size) : s.data.toList.take (k + 1) = s.data.toList.take k ++ [s[k]] := by
  rw [List.take_succ_eq_append_getElem (by rw [← Lib.size_eq]; exact hk), gdat s k hk]
theorem all_no {s : ByteArray} {k : Nat} {p : UInt8 → Bool} (hk : k < s.size) (h : p s[k] = false) : s.data.toList.all p = false := by
  rw [List.all_eq_false]
  exact ⟨s[k], by rw [← gdat s k hk]; exact List.getElem_mem _, by simp [h]⟩
theorem all_snoc {s : ByteArray} {k : Nat} {p : UInt8 → Bool} (hk : k < s.size) (ha : (s.data.toList.take k).all p = true) (h : p s[k] = true) : (s.data.toList.take (k + 1)).all p = true := by
  rw [take_snoc hk, List.all_append, ha]; simp [h]
theorem empty_of {s : ByteArray} (h : s.size = 0) : s.toList.isEmpty = true := by
  rw [Lib.toList_data, List.isEmpty_iff, ← List.length_eq_zero_iff, ← Lib.size_eq]; exact h
theorem empty_no {s : ByteArray} (h : ¬ s.size = 0) : s.toList.isEmpty = false := by
  rw [Lib.toList_data]
  cases e : s.data.toList with
  | nil => exact absurd (by rw [Lib.size_eq, e]; rfl) h
  | cons => rfl

def digB (c : Int) : Bool := decide (48 ≤ c ∧ c ≤ 57)
theorem two_t {c lo hi : Int} (h : lo ≤ c) : decide (c ≤ hi) = decide (lo ≤ c ∧ c ≤ hi) := by simp [h]
theorem two_f {c lo hi : Int} (h : c < lo) : false = (decide (lo ≤ c) && decide (c ≤ hi)) := by
  have : decide (lo ≤ c) = false := by simp; omega
  rw [this]; rfl
theorem dig_c (c : Int) (w : World) : Calls Tryd.prog 36 #[.int .u8 c] w fun e w' => e = .returned (.bool (digB c)) ∧ w = w' := by
  unfold digB
  by_cases h1 : 48 ≤ c
  · go_enter Tryd.func36, Tryd.ntmps36
    go_wp2
    go_ret
    exact ⟨ret_bool (two_t h1), rfl⟩
  · go_enter Tryd.func36, Tryd.ntmps36
    go_wp2
    go_ret
    exact ⟨ret_bool (two_f h1), rfl⟩
theorem is_r (c lo hi : Int) (w : World) (h0 : 0 ≤ c) (h9 : c ≤ 255) : Calls Tryd.prog 49 #[.int .u8 c, .int .i64 lo, .int .i64 hi] w fun e w' => e = .returned (.bool (decide (lo ≤ c ∧ c ≤ hi))) ∧ w = w' := by
  by_cases h1 : lo ≤ c
  · go_enter Tryd.func49, Tryd.ntmps49
    go_wp2
    go_ret
    exact ⟨ret_bool (two_t h1), rfl⟩
  · go_enter Tryd.func49, Tryd.ntmps49
    go_wp2
    go_ret
    exact ⟨ret_bool (two_f h1), rfl⟩
theorem dig_r (c : Int) (w : World) (h0 : 0 ≤ c) (h1 : c ≤ 255) : Calls Tryd.prog 40 #[.int .u8 c] w fun e w' => e = .returned (.bool (digB c)) ∧ w = w' := by
  go_enter Tryd.func40, Tryd.ntmps40
  go_wp2_with (go_at_call 49; refine (is_r _ _ _ _ h0 h1).mono ?_; rintro e w' ⟨rfl, rfl⟩)
  go_ret
  exact ⟨ret_bool (by simp [digB]), rfl⟩

theorem digit_yes (c : Int) (w : World) (h0 : 0 ≤ c) (h1 : c ≤ 255) (h : 0 ≤ hv c) : Calls Tryd.prog 44 #[.int .u8 c] w fun e w' => e = .returned (.tuple #[.int .u64 (hv c), .bool true]) ∧ w = w' := by
  by_cases a : 65 ≤ c ∧ c ≤ 70
  · have HE : Hid (c - 55 = hv c) := by show c - 55 = hv c; unfold hv; rw [if_neg (by omega), if_neg (by omega), if_pos a]
    obtain ⟨a1, a2⟩ := a
    clear h
    go_enter Tryd.func44, Tryd.ntmps44
    go_wp2
    go_ret2
    exact ⟨ret2_ib (by rw [← HE.out]; omega), rfl⟩
  · by_cases b : 97 ≤ c ∧ c ≤ 102
    · have HE : Hid (c - 87 = hv c) := by show c - 87 = hv c; unfold hv; rw [if_neg (by omega), if_pos b]
      obtain ⟨b1, b2⟩ := b
      have a1 : ¬ c ≤ 70 := by omega
      clear h a
      go_enter Tryd.func44, Tryd.ntmps44
      go_wp2
      go_ret2
      exact ⟨ret2_ib (by rw [← HE.out]; omega), rfl⟩
    · have d : 48 ≤ c ∧ c ≤ 57 := by
        by_cases g : 48 ≤ c ∧ c ≤ 57
        · exact g
        · unfold hv at h; rw [if_neg g, if_neg b, if_neg a] at h; omega
      have HE : Hid (c - 48 = hv c) := by show c - 48 = hv c; unfold hv; rw [if_pos d]
      have hd : digB c = true := decide_eq_true d
      have HD := Lib.hid (fun W => dig_c c W)
      rw [hd] at HD
      obtain ⟨d1, d2⟩ := d
      have a1 : ¬ 65 ≤ c := by omega
      clear h a b hd
      go_enter Tryd.func44, Tryd.ntmps44
      go_wp2_with (go_at_call 36; refine (HD.out _).mono ?_; rintro e w' ⟨rfl, rfl⟩)
      go_ret2
      exact ⟨ret2_ib (by rw [← HE.out]), rfl⟩

theorem digit_no (c : Int) (w : World) (h0 : 0 ≤ c) (h1 : c ≤ 255) (h : hv c < 0) : Calls Tryd.prog 44 #[.int .u8 c] w fun e w' => e = .returned (.tuple #[.int .u64 0, .bool false]) ∧ w = w' := by
  have a : ¬ (65 ≤ c ∧ c ≤ 70) := fun a => by unfold hv at h; rw [if_neg (by omega), if_neg (by omega), if_pos a] at h; omega
  have b : ¬ (97 ≤ c ∧ c ≤ 102) := fun b => by unfold hv at h; rw [if_neg (by omega), if_pos b] at h; omega
  have d : ¬ (48 ≤ c ∧ c ≤ 57) := fun d => by unfold hv at h; rw [if_pos d] at h; omega
  have HD := Lib.hid (fun W => dig_c c W)
  rw [show digB c = false from decide_eq_false d] at HD
  clear h d
  by_cases a1 : 65 ≤ c
  · have a2 : ¬ c ≤ 70 := by omega
    by_cases b1 : 97 ≤ c
    · have b2 : ¬ c ≤ 102 := by omega
      clear a b
      go_enter Tryd.func44, Tryd.ntmps44
      go_wp2_with (go_at_call 36; refine (HD.out _).mono ?_; rintro e w' ⟨rfl, rfl⟩)
      go_ret2
      exact ⟨rfl, rfl⟩
    · clear a b
      go_enter Tryd.func44, Tryd.ntmps44
      go_wp2_with (go_at_call 36; refine (HD.out _).mono ?_; rintro e w' ⟨rfl, rfl⟩)
      go_ret2
      exact ⟨rfl, rfl⟩
  · have b1 : ¬ 97 ≤ c := by omega
    clear a b
    go_enter Tryd.func44, Tryd.ntmps44
    go_wp2_with (go_at_call 36; refine (HD.out _).mono ?_; rintro e w' ⟨rfl, rfl⟩)
    go_ret2
    exact ⟨rfl, rfl⟩

def rdN (B M : Int) (l : List UInt8) : Int := if l ≠ [] ∧ l.all (okD B) = true ∧ val B l ≤ M then val B l else 0
def rdE (B M : Int) (l : List UInt8) : Int := if l ≠ [] ∧ l.all (okD B) = true then (if val B l ≤ M then 0 else 5) else 3
theorem rd_no {B M : Int} {l : List UInt8} (h : ¬ (l ≠ [] ∧ l.all (okD B) = true)) : rdN B M l = 0 ∧ rdE B M l = 3 :=
  ⟨by unfold rdN; rw [if_neg (fun g => h ⟨g.1, g.2.1⟩)], by unfold rdE; rw [if_neg h]⟩
theorem rd_yes {B M : Int} {l : List UInt8} (h : l ≠ [] ∧ l.all (okD B) = true) (hm : val B l ≤ M) : rdN B M l = val B l ∧ rdE B M l = 0 :=
  ⟨by unfold rdN; rw [if_pos ⟨h.1, h.2, hm⟩], by unfold rdE; rw [if_pos h, if_pos hm]⟩
theorem rd_long {B M : Int} {l : List UInt8} (h : l ≠ [] ∧ l.all (okD B) = true) (hm : ¬ val B l ≤ M) : rdN B M l = 0 ∧ rdE B M l = 5 :=
  ⟨by unfold rdN; rw [if_neg (fun g => hm g.2.2)], by unfold rdE; rw [if_pos h, if_neg hm]⟩
theorem ne_of {s : ByteArray} (h : ¬ s.size = 0) : s.data.toList ≠ [] := fun e => h (by rw [Lib.size_eq, e]; rfl)
def RdRel (B M : Int) (l : List UInt8) (k : Nat) (n e : Int) : Prop :=
  (l.take k).all (okD B) = true ∧ ((val B (l.take k) ≤ M ∧ n = val B (l.take k) ∧ e = 0) ∨ (M < val B (l.take k) ∧ n = 0 ∧ e = 5))

theorem read_nil (s : ByteArray) (B M : Int) (w : World) (h : s.size = 0) : Calls Tryd.prog 29 #[.string s, .int .u64 B, .int .u64 M] w fun e w' => e = .returned (.tuple #[.int .u64 0, .int .i64 3]) ∧ w = w' := by
  have hem := empty_of h
  clear h
  go_enter Tryd.func29, Tryd.ntmps29
  go_wp2
  go_ret2
  exact ⟨rfl, rfl⟩

set_option maxRecDepth 100000 in
set_option maxHeartbeats 2000000 in
theorem read10_c (s : ByteArray) (M : Int) (w : World) (hs : s.size ≤ 1000) (m0 : 16 ≤ M) (m1 : M ≤ 9223372036854775808) :
    Calls Tryd.prog 29 #[.string s, .int .u64 10, .int .u64 M] w fun e w' => e = .returned (.tuple #[.int .u64 (rdN 10 M s.data.toList), .int .i64 (rdE 10 M s.data.toList)]) ∧ w = w' := by
  by_cases hz : s.size = 0
  · have hn : ¬ (s.data.toList ≠ [] ∧ s.data.toList.all (okD 10) = true) := fun g => g.1 (List.length_eq_zero_iff.1 (by rw [← Lib.size_eq]; exact hz))
    rw [(rd_no hn).1, (rd_no hn).2]
    exact read_nil s 10 M w hz
  have hem := empty_no hz
  have HNE := Lib.hid (ne_of hz)
  have hsl := Lib.hid (Lib.size_eq s)
  clear hz
  go_enter Tryd.func29, Tryd.ntmps29
  go_wp2
  go_loop [8, 9, 17] (fun a b i => ∃ (k : Nat) (n e : Int), k ≤ s.size ∧ i = .int .i64 k ∧ a = .int .u64 n ∧ b = .int .i64 e ∧ RdRel 10 M s.data.toList k n e) (fun _ _ i => s.size - (intOf i).toNat)
  case atStart => exact ⟨0, 0, 0, by omega, rfl, rfl, rfl, rfl, .inl ⟨by simp [val]; omega, rfl, rfl⟩⟩
  case round =>
    obtain ⟨k, n, e, hk, rfl, rfl, rfl, hal, hcase⟩ := hrel
    have HA := Lib.hid hal
    have vb := (val_bd (B := 10) (.inl rfl) _ hal).1
    have VB := Lib.hid vb
    clear hal vb
    by_cases hlt : k < s.size
    · have h0 : 0 ≤ ((s[k].toNat : Nat) : Int) := by omega
      have h1 : ((s[k].toNat : Nat) : Int) ≤ 255 := by have := s[k].toNat_lt; omega
      have HTS : Hid (val 10 (s.data.toList.take (k + 1)) = val 10 (s.data.toList.take k) * 10 + hv (s[k].toNat : Int)) := by
        show val 10 (s.data.toList.take (k + 1)) = _
        rw [take_snoc hlt, val_snoc]; rfl
      by_cases hd : 0 ≤ hv (s[k].toNat : Int)
      · have hd9 : hv (s[k].toNat : Int) ≤ 15 := (hv_bd _).2

        by_cases hbase : hv (s[k].toNat : Int) < 10
        rotate_left
        · have hge : 10 ≤ hv (s[k].toNat : Int) := by omega
          have HN : Hid (¬ (s.data.toList ≠ [] ∧ s.data.toList.all (okD 10) = true)) := fun g => by
            have := all_no (p := okD 10) hlt (decide_eq_false (fun h => hbase h.2))
            rw [g.2] at this; cases this
          clear hbase
          go_wp2_with (go_at_call 44; refine (digit_yes _ _ h0 h1 hd).mono ?_; rintro e w' ⟨rfl, rfl⟩)
          go_ret2
          exact ⟨ret2_ii (rd_no HN.out).1.symm (rd_no HN.out).2.symm, rfl⟩
        have HOK : Hid (okD 10 s[k] = true) := decide_eq_true ⟨hd, hbase⟩
        have HAL := Lib.hid (all_snoc (p := okD 10) hlt HA.out HOK.out)
        have HDG := Lib.hid (fun W => digit_yes _ W h0 h1 hd)
        revert HDG HTS hd hd9 hbase
        generalize hv (s[k].toNat : Int) = d
        intro HTS hd hd9 hbase HDG
        rcases hcase with ⟨c1, rfl, rfl⟩ | ⟨c1, rfl, rfl⟩
        · revert HTS VB c1
          generalize val 10 (s.data.toList.take k) = v
          intro VB HTS c1
          have v0 : 0 ≤ v := VB.out
          by_cases hfit : v ≤ (M - d) / 10
          · go_wp2_with (go_at_call 44; refine (HDG.out _).mono ?_; rintro e w' ⟨rfl, rfl⟩)
            go_round
            case rel => exact ⟨k + 1, _, _, by omega, by go_num, rfl, rfl, HAL.out, .inl ⟨by rw [HTS.out]; omega, by rw [HTS.out], rfl⟩⟩
            case measure => simp [intOf]; omega
          · have hfit2 : (M - d) / 10 < v := by omega
            clear hfit
            go_wp2_with (go_at_call 44; refine (HDG.out _).mono ?_; rintro e w' ⟨rfl, rfl⟩)
            go_round
            case rel => exact ⟨k + 1, _, _, by omega, by go_num, rfl, rfl, HAL.out, .inr ⟨by rw [HTS.out]; omega, rfl, rfl⟩⟩
            case measure => simp [intOf]; omega
        · have C1 := Lib.hid c1
          clear c1
          go_wp2_with (go_at_call 44; refine (HDG.out _).mono ?_; rintro e w' ⟨rfl, rfl⟩)
          go_round
          case rel => exact ⟨k + 1, _, _, by omega, by go_num, rfl, rfl, HAL.out, .inr ⟨by rw [HTS.out]; have := C1.out; omega, rfl, rfl⟩⟩
          case measure => simp [intOf]; omega
      · have hd2 : hv (s[k].toNat : Int) < 0 := by omega
        have HN : Hid (¬ (s.data.toList ≠ [] ∧ s.data.toList.all (okD 10) = true)) := fun g => by
          have := all_no (p := okD 10) hlt (decide_eq_false (fun h => hd h.1))
          rw [g.2] at this; cases this
        clear hd hcase
        go_wp2_with (go_at_call 44; refine (digit_no _ _ h0 h1 hd2).mono ?_; rintro e w' ⟨rfl, rfl⟩)
        go_ret2
        exact ⟨ret2_ii (rd_no HN.out).1.symm (rd_no HN.out).2.symm, rfl⟩
    · have HT : Hid (s.data.toList.take k = s.data.toList) := List.take_of_length_le (by rw [← hsl.out]; omega)
      have HC := Lib.hid hcase
      clear hcase
      go_wp2
      go_ret2
      have ha := HA.out
      have hc := HC.out
      rw [HT.out] at ha hc
      rcases hc with ⟨c1, rfl, rfl⟩ | ⟨c1, rfl, rfl⟩
      · exact ⟨ret2_ii (rd_yes ⟨HNE.out, ha⟩ c1).1.symm (rd_yes ⟨HNE.out, ha⟩ c1).2.symm, rfl⟩
      · exact ⟨ret2_ii (rd_long ⟨HNE.out, ha⟩ (by omega)).1.symm (rd_long ⟨HNE.out, ha⟩ (by omega)).2.symm, rfl⟩

set_option maxRecDepth 100000 in
set_option maxHeartbeats 2000000 in
theorem read16_c (s : ByteArray) (M : Int) (w : World) (hs : s.size ≤ 1000) (m0 : 16 ≤ M) (m1 : M ≤ 9223372036854775808) :
    Calls Tryd.prog 29 #[.string s, .int .u64 16, .int .u64 M] w fun e w' => e = .returned (.tuple #[.int .u64 (rdN 16 M s.data.toList), .int .i64 (rdE 16 M s.data.toList)]) ∧ w = w' := by
  by_cases hz : s.size = 0
  · have hn : ¬ (s.data.toList ≠ [] ∧ s.data.toList.all (okD 16) = true) := fun g => g.1 (List.length_eq_zero_iff.1 (by rw [← Lib.size_eq]; exact hz))
    rw [(rd_no hn).1, (rd_no hn).2]
    exact read_nil s 16 M w hz
  have hem := empty_no hz
  have HNE := Lib.hid (ne_of hz)
  have hsl := Lib.hid (Lib.size_eq s)
  clear hz
  go_enter Tryd.func29, Tryd.ntmps29
  go_wp2
  go_loop [8, 9, 17] (fun a b i => ∃ (k : Nat) (n e : Int), k ≤ s.size ∧ i = .int .i64 k ∧ a = .int .u64 n ∧ b = .int .i64 e ∧ RdRel 16 M s.data.toList k n e) (fun _ _ i => s.size - (intOf i).toNat)
  case atStart => exact ⟨0, 0, 0, by omega, rfl, rfl, rfl, rfl, .inl ⟨by simp [val]; omega, rfl, rfl⟩⟩
  case round =>
    obtain ⟨k, n, e, hk, rfl, rfl, rfl, hal, hcase⟩ := hrel
    have HA := Lib.hid hal
    have vb := (val_bd (B := 16) (.inr rfl) _ hal).1
    have VB := Lib.hid vb
    clear hal vb
    by_cases hlt : k < s.size
    · have h0 : 0 ≤ ((s[k].toNat : Nat) : Int) := by omega
      have h1 : ((s[k].toNat : Nat) : Int) ≤ 255 := by have := s[k].toNat_lt; omega
      have HTS : Hid (val 16 (s.data.toList.take (k + 1)) = val 16 (s.data.toList.take k) * 16 + hv (s[k].toNat : Int)) := by
        show val 16 (s.data.toList.take (k + 1)) = _
        rw [take_snoc hlt, val_snoc]; rfl
      by_cases hd : 0 ≤ hv (s[k].toNat : Int)
      · have hd9 : hv (s[k].toNat : Int) ≤ 15 := (hv_bd _).2

        have hbase : hv (s[k].toNat : Int) < 16 := by have := (hv_bd (s[k].toNat : Int)).2; omega
        have HOK : Hid (okD 16 s[k] = true) := decide_eq_true ⟨hd, hbase⟩
        have HAL := Lib.hid (all_snoc (p := okD 16) hlt HA.out HOK.out)
        have HDG := Lib.hid (fun W => digit_yes _ W h0 h1 hd)
        revert HDG HTS hd hd9 hbase
        generalize hv (s[k].toNat : Int) = d
        intro HTS hd hd9 hbase HDG
        rcases hcase with ⟨c1, rfl, rfl⟩ | ⟨c1, rfl, rfl⟩
        · revert HTS VB c1
          generalize val 16 (s.data.toList.take k) = v
          intro VB HTS c1
          have v0 : 0 ≤ v := VB.out
          by_cases hfit : v ≤ (M - d) / 16
          · go_wp2_with (go_at_call 44; refine (HDG.out _).mono ?_; rintro e w' ⟨rfl, rfl⟩)
            go_round
            case rel => exact ⟨k + 1, _, _, by omega, by go_num, rfl, rfl, HAL.out, .inl ⟨by rw [HTS.out]; omega, by rw [HTS.out], rfl⟩⟩
            case measure => simp [intOf]; omega
          · have hfit2 : (M - d) / 16 < v := by omega
            clear hfit
            go_wp2_with (go_at_call 44; refine (HDG.out _).mono ?_; rintro e w' ⟨rfl, rfl⟩)
            go_round
            case rel => exact ⟨k + 1, _, _, by omega, by go_num, rfl, rfl, HAL.out, .inr ⟨by rw [HTS.out]; omega, rfl, rfl⟩⟩
            case measure => simp [intOf]; omega
        · have C1 := Lib.hid c1
          clear c1
          go_wp2_with (go_at_call 44; refine (HDG.out _).mono ?_; rintro e w' ⟨rfl, rfl⟩)
          go_round
          case rel => exact ⟨k + 1, _, _, by omega, by go_num, rfl, rfl, HAL.out, .inr ⟨by rw [HTS.out]; have := C1.out; omega, rfl, rfl⟩⟩
          case measure => simp [intOf]; omega
      · have hd2 : hv (s[k].toNat : Int) < 0 := by omega
        have HN : Hid (¬ (s.data.toList ≠ [] ∧ s.data.toList.all (okD 16) = true)) := fun g => by
          have := all_no (p := okD 16) hlt (decide_eq_false (fun h => hd h.1))
          rw [g.2] at this; cases this
        clear hd hcase
        go_wp2_with (go_at_call 44; refine (digit_no _ _ h0 h1 hd2).mono ?_; rintro e w' ⟨rfl, rfl⟩)
        go_ret2
        exact ⟨ret2_ii (rd_no HN.out).1.symm (rd_no HN.out).2.symm, rfl⟩
    · have HT : Hid (s.data.toList.take k = s.data.toList) := List.take_of_length_le (by rw [← hsl.out]; omega)
      have HC := Lib.hid hcase
      clear hcase
      go_wp2
      go_ret2
      have ha := HA.out
      have hc := HC.out
      rw [HT.out] at ha hc
      rcases hc with ⟨c1, rfl, rfl⟩ | ⟨c1, rfl, rfl⟩
      · exact ⟨ret2_ii (rd_yes ⟨HNE.out, ha⟩ c1).1.symm (rd_yes ⟨HNE.out, ha⟩ c1).2.symm, rfl⟩
      · exact ⟨ret2_ii (rd_long ⟨HNE.out, ha⟩ (by omega)).1.symm (rd_long ⟨HNE.out, ha⟩ (by omega)).2.symm, rfl⟩
end Go.Proofs.YtbafjilhopgjmaaDoor.Nu
