/- The contract of the document's own One: for every text of at most a thousand bytes. -/
import Derived.Test.YtojmjdgapfcjfaaDoorEtRef
namespace Go.Proofs.YtojmjdgapfcjfaaDoor.Et
open Go.RowKit Ch
set_option linter.unusedSimpArgs false
set_option linter.unusedVariables false

set_option maxRecDepth 100000 in
set_option maxHeartbeats 1000000 in
theorem oneR_a (s : ByteArray) (w : World) (hs : s.size ≤ 1000) (h1 : ¬ 1 < s.size) : Calls Tryd.prog 14 #[.string s] w fun e w' => e = .returned (.tuple #[.agg #[.bool false, .string ⟨#[]⟩], .bool false]) ∧ Below w.heap.size w w' := by
  have h1' : ¬ (1 : Int) < (s.size : Int) := by omega
  have h2' : (s.size : Int) < 2 := by omega
  go_enter Tryd.func14, Tryd.ntmps14
  go_wp2
  refine bodyPost_ret (v := .tuple #[.agg #[.bool false, .string ⟨#[]⟩], .bool false]) (by simp [results, Tryd.results14, go_sem]) rfl ⟨rfl, ?_⟩
  exact ((Below.refl w.heap.size w).alloc (Nat.le_refl _) _).alloc (by simp) _
set_option maxRecDepth 100000 in
set_option maxHeartbeats 1000000 in
theorem oneR_n3 (s : ByteArray) (w : World) (hs : s.size ≤ 1000) (h1 : 1 < s.size) (h0 : (((s[0].toNat : Nat) : Int) == 87) = true) (hs1 : (((s[1].toNat : Nat) : Int) == 47) = false) (hq : (((s[0].toNat : Nat) : Int) == 34) = false) : Calls Tryd.prog 14 #[.string s] w fun e w' => e = .returned (.tuple #[.agg #[.bool false, .string ⟨#[]⟩], .bool false]) ∧ Below w.heap.size w w' := by
  have h1' : (1 : Int) < (s.size : Int) := by omega
  have h2' : decide ((s.size : Int) < 2) = false := by simp; omega
  have hqn : (((s[0].toNat : Nat) : Int) != 34) = true := by simp only [bne, hq]; rfl
  go_enter Tryd.func14, Tryd.ntmps14
  go_wp2
  refine bodyPost_ret (v := .tuple #[.agg #[.bool false, .string ⟨#[]⟩], .bool false]) (by simp [results, Tryd.results14, go_sem]) rfl ⟨rfl, ?_⟩
  exact ((Below.refl w.heap.size w).alloc (Nat.le_refl _) _).alloc (by simp) _
set_option maxRecDepth 100000 in
set_option maxHeartbeats 1000000 in
theorem oneR_n2b (s : ByteArray) (w : World) (hs : s.size ≤ 1000) (h1 : 1 < s.size) (h0 : (((s[0].toNat : Nat) : Int) == 87) = false) (hq : (((s[0].toNat : Nat) : Int) == 34) = false) : Calls Tryd.prog 14 #[.string s] w fun e w' => e = .returned (.tuple #[.agg #[.bool false, .string ⟨#[]⟩], .bool false]) ∧ Below w.heap.size w w' := by
  have h1' : (1 : Int) < (s.size : Int) := by omega
  have h2' : decide ((s.size : Int) < 2) = false := by simp; omega
  have hqn : (((s[0].toNat : Nat) : Int) != 34) = true := by simp only [bne, hq]; rfl
  go_enter Tryd.func14, Tryd.ntmps14
  go_wp2
  refine bodyPost_ret (v := .tuple #[.agg #[.bool false, .string ⟨#[]⟩], .bool false]) (by simp [results, Tryd.results14, go_sem]) rfl ⟨rfl, ?_⟩
  exact ((Below.refl w.heap.size w).alloc (Nat.le_refl _) _).alloc (by simp) _
set_option maxRecDepth 100000 in
set_option maxHeartbeats 1000000 in
theorem oneR_n2c (s : ByteArray) (w : World) (hs : s.size ≤ 1000) (h1 : 1 < s.size) (h0 : (((s[0].toNat : Nat) : Int) == 87) = false) (hq : (((s[0].toNat : Nat) : Int) == 34) = true) (hl : (((s[s.size - 1].toNat : Nat) : Int) == 34) = false) : Calls Tryd.prog 14 #[.string s] w fun e w' => e = .returned (.tuple #[.agg #[.bool false, .string ⟨#[]⟩], .bool false]) ∧ Below w.heap.size w w' := by
  have h1' : (1 : Int) < (s.size : Int) := by omega
  have h2' : decide ((s.size : Int) < 2) = false := by simp; omega
  have hqn : (((s[0].toNat : Nat) : Int) != 34) = false := by simp only [bne, hq]; rfl
  have hln : (((s[s.size - 1].toNat : Nat) : Int) != 34) = true := by simp only [bne, hl]; rfl
  go_enter Tryd.func14, Tryd.ntmps14
  go_wp2
  refine bodyPost_ret (v := .tuple #[.agg #[.bool false, .string ⟨#[]⟩], .bool false]) (by simp [results, Tryd.results14, go_sem]) rfl ⟨rfl, ?_⟩
  exact ((Below.refl w.heap.size w).alloc (Nat.le_refl _) _).alloc (by simp) _
set_option maxRecDepth 100000 in
set_option maxHeartbeats 1000000 in
theorem oneR_n2d (s : ByteArray) (w : World) (hs : s.size ≤ 1000) (h1 : 1 < s.size) (h0 : (((s[0].toNat : Nat) : Int) == 87) = false) (hq : (((s[0].toNat : Nat) : Int) == 34) = true) (hl : (((s[s.size - 1].toNat : Nat) : Int) == 34) = true) (HR : Hid (∀ W, Calls Tryd.prog 10 #[.string (s.extract 1 (s.size - 1))] W fun e w' => e = .returned (.bool false) ∧ W = w')) : Calls Tryd.prog 14 #[.string s] w fun e w' => e = .returned (.tuple #[.agg #[.bool false, .string ⟨#[]⟩], .bool false]) ∧ Below w.heap.size w w' := by
  have h1' : (1 : Int) < (s.size : Int) := by omega
  have h2' : decide ((s.size : Int) < 2) = false := by simp; omega
  have hqn : (((s[0].toNat : Nat) : Int) != 34) = false := by simp only [bne, hq]; rfl
  have hln : (((s[s.size - 1].toNat : Nat) : Int) != 34) = false := by simp only [bne, hl]; rfl
  go_enter Tryd.func14, Tryd.ntmps14
  go_wp2_with fail
  refine (HR.out _).mono ?_
  rintro e w1 ⟨rfl, hw⟩
  rw [← hw]; clear hw
  go_wp2
  refine bodyPost_ret (v := .tuple #[.agg #[.bool false, .string ⟨#[]⟩], .bool false]) (by simp [results, Tryd.results14, go_sem]) rfl ⟨rfl, ?_⟩
  exact ((Below.refl w.heap.size w).alloc (Nat.le_refl _) _).alloc (by simp) _
set_option maxRecDepth 100000 in
set_option maxHeartbeats 1000000 in
theorem oneR_n2e (s : ByteArray) (w : World) (hs : s.size ≤ 1000) (h1 : 1 < s.size) (h0 : (((s[0].toNat : Nat) : Int) == 87) = false) (hq : (((s[0].toNat : Nat) : Int) == 34) = true) (hl : (((s[s.size - 1].toNat : Nat) : Int) == 34) = true) (HR : Hid (∀ W, Calls Tryd.prog 10 #[.string (s.extract 1 (s.size - 1))] W fun e w' => e = .returned (.bool true) ∧ W = w')) : Calls Tryd.prog 14 #[.string s] w fun e w' => e = .returned (.tuple #[.agg #[.bool false, .string (s.extract 1 (s.size - 1))], .bool true]) ∧ Below w.heap.size w w' := by
  have h1' : (1 : Int) < (s.size : Int) := by omega
  have h2' : decide ((s.size : Int) < 2) = false := by simp; omega
  have hqn : (((s[0].toNat : Nat) : Int) != 34) = false := by simp only [bne, hq]; rfl
  have hln : (((s[s.size - 1].toNat : Nat) : Int) != 34) = false := by simp only [bne, hl]; rfl
  go_enter Tryd.func14, Tryd.ntmps14
  go_wp2_with fail
  refine (HR.out _).mono ?_
  rintro e w1 ⟨rfl, hw⟩
  rw [← hw]; clear hw
  go_wp2
  refine bodyPost_ret (v := .tuple #[.agg #[.bool false, .string (s.extract 1 (s.size - 1))], .bool true]) (by simp [results, Tryd.results14, go_sem]) rfl ⟨rfl, ?_⟩
  exact ((Below.refl w.heap.size w).alloc (Nat.le_refl _) _).alloc (by simp) _
set_option maxRecDepth 100000 in
set_option maxHeartbeats 1000000 in
theorem oneR_wa (s : ByteArray) (w : World) (hs : s.size ≤ 1000) (h1 : 1 < s.size) (h0 : (((s[0].toNat : Nat) : Int) == 87) = true) (hs1 : (((s[1].toNat : Nat) : Int) == 47) = true) (h2 : s.size - 2 < 2) : Calls Tryd.prog 14 #[.string s] w fun e w' => e = .returned (.tuple #[.agg #[.bool false, .string ⟨#[]⟩], .bool false]) ∧ Below w.heap.size w w' := by
  have h1' : (1 : Int) < (s.size : Int) := by omega
  have hz : ((s.size - 2 : Nat) : Int) < 2 := by omega
  have hd : decide (((s.size - 2 : Nat) : Int) < 2) = true := by simp; omega
  go_enter Tryd.func14, Tryd.ntmps14
  go_wp2
  refine bodyPost_ret (v := .tuple #[.agg #[.bool false, .string ⟨#[]⟩], .bool false]) (by simp [results, Tryd.results14, go_sem]) rfl ⟨rfl, ?_⟩
  exact ((Below.refl w.heap.size w).alloc (Nat.le_refl _) _).alloc (by simp) _
end Go.Proofs.YtojmjdgapfcjfaaDoor.Et
