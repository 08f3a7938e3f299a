/- The contract of the document's own One: for every text of at most a thousand bytes. -/
import Derived.Test.YtojmjdgapfcjfaaDoorEtOneR
namespace Go.Proofs.YtojmjdgapfcjfaaDoor.Et
open Go.RowKit Ch
set_option linter.unusedSimpArgs false
set_option linter.unusedVariables false

set_option maxRecDepth 100000 in
set_option maxHeartbeats 1000000 in
theorem oneR_wb (s : ByteArray) (w : World) (hs : s.size ≤ 1000) (h1 : 1 < s.size) (h0 : (((s[0].toNat : Nat) : Int) == 87) = true) (hs1 : (((s[1].toNat : Nat) : Int) == 47) = true) (h2 : 2 ≤ s.size - 2) (h3 : 0 < (s.extract 2 s.size).size) (hq : (((((s.extract 2 s.size)[0]'h3).toNat : Nat) : Int) == 34) = false) : Calls Tryd.prog 14 #[.string s] w fun e w' => e = .returned (.tuple #[.agg #[.bool false, .string ⟨#[]⟩], .bool false]) ∧ Below w.heap.size w w' := by
  have h1' : (1 : Int) < (s.size : Int) := by omega
  have hd : decide (((s.size - 2 : Nat) : Int) < 2) = false := by simp; omega
  have hqn : (((((s.extract 2 s.size)[0]'h3).toNat : Nat) : Int) != 34) = true := by simp only [bne, hq]; rfl
  go_enter Tryd.func14, Tryd.ntmps14
  go_wp2
  refine bodyPost_ret (v := .tuple #[.agg #[.bool false, .string ⟨#[]⟩], .bool false]) (by simp [results, Tryd.results14, go_sem]) rfl ⟨rfl, ?_⟩
  exact ((Below.refl w.heap.size w).alloc (Nat.le_refl _) _).alloc (by simp) _
set_option maxRecDepth 100000 in
set_option maxHeartbeats 1000000 in
theorem oneR_wc (s : ByteArray) (w : World) (hs : s.size ≤ 1000) (h1 : 1 < s.size) (h0 : (((s[0].toNat : Nat) : Int) == 87) = true) (hs1 : (((s[1].toNat : Nat) : Int) == 47) = true) (h2 : 2 ≤ s.size - 2) (h3 : 0 < (s.extract 2 s.size).size) (hq : (((((s.extract 2 s.size)[0]'h3).toNat : Nat) : Int) == 34) = true) (hE : s.size - 2 - 1 < (s.extract 2 s.size).size) (hl : (((((s.extract 2 s.size)[s.size - 2 - 1]'hE).toNat : Nat) : Int) == 34) = false) : Calls Tryd.prog 14 #[.string s] w fun e w' => e = .returned (.tuple #[.agg #[.bool false, .string ⟨#[]⟩], .bool false]) ∧ Below w.heap.size w w' := by
  have h1' : (1 : Int) < (s.size : Int) := by omega
  have hd : decide (((s.size - 2 : Nat) : Int) < 2) = false := by simp; omega
  have hqn : (((((s.extract 2 s.size)[0]'h3).toNat : Nat) : Int) != 34) = false := by simp only [bne, hq]; rfl
  have hln : (((((s.extract 2 s.size)[s.size - 2 - 1]'hE).toNat : Nat) : Int) != 34) = true := by simp only [bne, hl]; rfl
  go_enter Tryd.func14, Tryd.ntmps14
  go_wp2
  refine bodyPost_ret (v := .tuple #[.agg #[.bool false, .string ⟨#[]⟩], .bool false]) (by simp [results, Tryd.results14, go_sem]) rfl ⟨rfl, ?_⟩
  exact ((Below.refl w.heap.size w).alloc (Nat.le_refl _) _).alloc (by simp) _
set_option maxRecDepth 100000 in
set_option maxHeartbeats 1000000 in
theorem oneR_wd (s : ByteArray) (w : World) (hs : s.size ≤ 1000) (h1 : 1 < s.size) (h0 : (((s[0].toNat : Nat) : Int) == 87) = true) (hs1 : (((s[1].toNat : Nat) : Int) == 47) = true) (h2 : 2 ≤ s.size - 2) (h3 : 0 < (s.extract 2 s.size).size) (hq : (((((s.extract 2 s.size)[0]'h3).toNat : Nat) : Int) == 34) = true) (hE : s.size - 2 - 1 < (s.extract 2 s.size).size) (hl : (((((s.extract 2 s.size)[s.size - 2 - 1]'hE).toNat : Nat) : Int) == 34) = true) (HR : Hid (∀ W, Calls Tryd.prog 10 #[.string ((s.extract 2 s.size).extract 1 (s.size - 2 - 1))] W fun e w' => e = .returned (.bool false) ∧ W = w')) : Calls Tryd.prog 14 #[.string s] w fun e w' => e = .returned (.tuple #[.agg #[.bool false, .string ⟨#[]⟩], .bool false]) ∧ Below w.heap.size w w' := by
  have h1' : (1 : Int) < (s.size : Int) := by omega
  have hd : decide (((s.size - 2 : Nat) : Int) < 2) = false := by simp; omega
  have hqn : (((((s.extract 2 s.size)[0]'h3).toNat : Nat) : Int) != 34) = false := by simp only [bne, hq]; rfl
  have hln : (((((s.extract 2 s.size)[s.size - 2 - 1]'hE).toNat : Nat) : Int) != 34) = false := by simp only [bne, hl]; rfl
  go_enter Tryd.func14, Tryd.ntmps14
  go_wp2_with fail
  refine (HR.out _).mono ?_
  rintro e w1 ⟨rfl, hw⟩
  rw [← hw]; clear hw
  go_wp2
  refine bodyPost_ret (v := .tuple #[.agg #[.bool false, .string ⟨#[]⟩], .bool false]) (by simp [results, Tryd.results14, go_sem]) rfl ⟨rfl, ?_⟩
  exact ((Below.refl w.heap.size w).alloc (Nat.le_refl _) _).alloc (by simp) _
set_option maxRecDepth 100000 in
set_option maxHeartbeats 1000000 in
theorem oneR_we (s : ByteArray) (w : World) (hs : s.size ≤ 1000) (h1 : 1 < s.size) (h0 : (((s[0].toNat : Nat) : Int) == 87) = true) (hs1 : (((s[1].toNat : Nat) : Int) == 47) = true) (h2 : 2 ≤ s.size - 2) (h3 : 0 < (s.extract 2 s.size).size) (hq : (((((s.extract 2 s.size)[0]'h3).toNat : Nat) : Int) == 34) = true) (hE : s.size - 2 - 1 < (s.extract 2 s.size).size) (hl : (((((s.extract 2 s.size)[s.size - 2 - 1]'hE).toNat : Nat) : Int) == 34) = true) (HR : Hid (∀ W, Calls Tryd.prog 10 #[.string ((s.extract 2 s.size).extract 1 (s.size - 2 - 1))] W fun e w' => e = .returned (.bool true) ∧ W = w')) : Calls Tryd.prog 14 #[.string s] w fun e w' => e = .returned (.tuple #[.agg #[.bool true, .string ((s.extract 2 s.size).extract 1 (s.size - 2 - 1))], .bool true]) ∧ Below w.heap.size w w' := by
  have h1' : (1 : Int) < (s.size : Int) := by omega
  have hd : decide (((s.size - 2 : Nat) : Int) < 2) = false := by simp; omega
  have hqn : (((((s.extract 2 s.size)[0]'h3).toNat : Nat) : Int) != 34) = false := by simp only [bne, hq]; rfl
  have hln : (((((s.extract 2 s.size)[s.size - 2 - 1]'hE).toNat : Nat) : Int) != 34) = false := by simp only [bne, hl]; rfl
  go_enter Tryd.func14, Tryd.ntmps14
  go_wp2_with fail
  refine (HR.out _).mono ?_
  rintro e w1 ⟨rfl, hw⟩
  rw [← hw]; clear hw
  go_wp2
  refine bodyPost_ret (v := .tuple #[.agg #[.bool true, .string ((s.extract 2 s.size).extract 1 (s.size - 2 - 1))], .bool true]) (by simp [results, Tryd.results14, go_sem]) rfl ⟨rfl, ?_⟩
  exact ((Below.refl w.heap.size w).alloc (Nat.le_refl _) _).alloc (by simp) _
end Go.Proofs.YtojmjdgapfcjfaaDoor.Et
