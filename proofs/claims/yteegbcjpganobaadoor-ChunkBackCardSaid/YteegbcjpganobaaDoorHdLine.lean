/- Contracts of both Lines: for every text of at most a thousand bytes and every length; the code's where the library's variable MaxLen holds a number. -/
import Derived.Test.YteegbcjpganobaaDoorHdAll
namespace Go.Proofs.YteegbcjpganobaaDoor.Hd
open Go.RowKit Ch
set_option linter.unusedSimpArgs false
set_option linter.unusedVariables false

/-- the library's variable holds some number -/
def Mx (w : World) : Prop := ∃ m : Int, w.cell? ⟨3, 0, none⟩ = some (.int .i64 m)
theorem Mx.lt {w : World} (h : Mx w) : 3 < w.heap.size := by
  obtain ⟨m, h⟩ := h
  exact World.block_lt_of_cell? w _ h
theorem Mx.go {w w' : World} (h : Mx w) (hb : Below w.heap.size w w') : Mx w' := by
  have hl := h.lt
  obtain ⟨m, h⟩ := h
  exact ⟨m, (hb.cell (p := ⟨3, 0, none⟩) hl).trans h⟩
theorem ext0 (s : ByteArray) (k : Nat) : s.extract 0 k = mkS (s.data.toList.take k) := mkS_of (by rw [Lib.extract_data]; simp)
theorem extN (s : ByteArray) (k : Nat) : s.extract k s.size = mkS (s.data.toList.drop k) := mkS_of (by rw [Lib.extract_data, List.take_of_length_le (by rw [List.length_drop, ← Lib.size_eq]; exact Nat.le_refl _)])
/-- where the first end of a line stands -/
def endL (l : List UInt8) : Option Nat := if Lib.index l [13, 10] = -1 then none else some (Lib.index l [13, 10]).toNat
theorem end_none {l : List UInt8} (h : Lib.index l [13, 10] = -1) : endL l = none := by unfold endL; rw [if_pos h]
theorem end_some {l : List UInt8} {k : Nat} (h : Lib.index l [13, 10] = (k : Int)) : endL l = some k := by unfold endL; rw [if_neg (by omega), h]; rfl
theorem cut_none {l : List UInt8} (h : endL l = none) : Lib.cut l [13, 10] = (l, [], false) := by
  have hi : Lib.index l [13, 10] = -1 := by
    unfold endL at h
    by_cases e : Lib.index l [13, 10] = -1
    · exact e
    · rw [if_neg e] at h; cases h
  unfold Lib.cut; rw [hi]; rfl
theorem cut_some {l : List UInt8} {k : Nat} (h : endL l = some k) : Lib.cut l [13, 10] = (l.take k, l.drop (k + 2), true) ∧ k ≤ l.length := by
  have hi : Lib.index l [13, 10] = (k : Int) := by
    unfold endL at h
    by_cases e : Lib.index l [13, 10] = -1
    · rw [if_pos e] at h; cases h
    · rw [if_neg e] at h
      have := Lib.index_ge l [13, 10]
      have hk := Option.some.inj h
      omega
  refine ⟨?_, by have := Lib.index_le l [13, 10]; omega⟩
  unfold Lib.cut; rw [hi]
  simp
theorem cut2_c (s : ByteArray) (w : World) (hs : s.size ≤ 10000) (hM : Mx w) : Calls Tryd.prog 35 #[.string s, .string ⟨#[13, 10]⟩] w fun e w' => e = .returned (.tuple #[.string (mkS (Lib.cut s.data.toList [13, 10]).1), .string (mkS (Lib.cut s.data.toList [13, 10]).2.1), .bool (Lib.cut s.data.toList [13, 10]).2.2]) ∧ ∃ n, w' = w.drewN n := by
  obtain ⟨m, hm⟩ := hM
  exact Any.strings_Cut Tryd.lays145 s ⟨#[13, 10]⟩ m w (by omega) hm
/-- what Line answers -/
def lnV (q : Option Nat) (l : List UInt8) (most : Int) : Ending := match q with
  | none => .returned (.tuple #[.string ⟨#[]⟩, .int .i64 0, .bool (decide ((l.length : Int) - 1 ≤ most))])
  | some k => if most < (k : Int) then .returned (.tuple #[.string ⟨#[]⟩, .int .i64 0, .bool false]) else .returned (.tuple #[.string (mkS (l.take k)), .int .i64 ((k : Int) + 2), .bool true])
set_option maxRecDepth 100000 in
set_option maxHeartbeats 1000000 in
theorem Line_c (s : ByteArray) (most : Int) (w : World) (hs : s.size ≤ 10000) (hM : Mx w) : Calls Tryd.prog 34 #[.string s, .int .i64 most] w fun e w' => e = lnV (endL s.data.toList) s.data.toList most ∧ Below w.heap.size w w' := by
  have HC := Lib.hid (cut2_c s w hs hM)
  have hsl := Lib.size_eq s
  clear hM
  cases hq : endL s.data.toList with
  | none =>
    rw [cut_none hq] at HC
    show Calls _ _ _ _ fun e w' => e = .returned (.tuple #[.string ⟨#[]⟩, .int .i64 0, .bool (decide ((s.data.toList.length : Int) - 1 ≤ most))]) ∧ _
    rw [← hsl]
    have he : mkS s.data.toList = s := (mkS_of rfl).symm
    rw [he] at HC
    clear hq hsl he
    go_enter Tryd.func34, Tryd.ntmps34
    go_wp2_with fail
    refine HC.out.mono ?_
    rintro e w1 ⟨rfl, n, hw⟩
    rw [hw]; clear hw HC
    go_wp2
    go_ret3
    exact ⟨rfl, rfl, rfl, rfl, Nat.le_refl _, fun _ _ => rfl⟩
  | some k =>
    obtain ⟨hc, hk⟩ := cut_some hq
    rw [hc] at HC
    simp only at HC
    rw [← hsl] at hk
    have hz : (mkS (s.data.toList.take k)).size = k := by rw [size_mkS, List.length_take, ← hsl]; omega
    have HZ := Lib.hid hz
    unfold lnV
    simp only
    clear hq hsl hc
    by_cases hlt : most < (k : Int)
    · rw [if_pos hlt]
      have h2 : most < ((mkS (s.data.toList.take k)).size : Int) := by rw [hz]; exact hlt
      clear hz
      revert HC h2 HZ
      generalize mkS (s.data.toList.take k) = t
      generalize mkS (s.data.toList.drop (k + 2)) = u
      intro HC HZ h2
      go_enter Tryd.func34, Tryd.ntmps34
      go_wp2_with fail
      refine HC.out.mono ?_
      rintro e w1 ⟨rfl, n, hw⟩
      rw [hw]; clear hw HC
      go_wp2
      go_ret3
      exact ⟨rfl, rfl, rfl, rfl, Nat.le_refl _, fun _ _ => rfl⟩
    · rw [if_neg hlt]
      have h2 : ¬ most < ((mkS (s.data.toList.take k)).size : Int) := by rw [hz]; exact hlt
      have h3 : (mkS (s.data.toList.take k)).size ≤ 10000 := by omega
      clear hz
      revert HC h2 HZ h3
      generalize mkS (s.data.toList.take k) = t
      generalize mkS (s.data.toList.drop (k + 2)) = u
      intro HC HZ h2 h3
      go_enter Tryd.func34, Tryd.ntmps34
      go_wp2_with fail
      refine HC.out.mono ?_
      rintro e w1 ⟨rfl, n, hw⟩
      rw [hw]; clear hw HC
      go_wp2
      go_ret3
      exact ⟨by rw [← HZ.out]; rfl, rfl, rfl, rfl, Nat.le_refl _, fun _ _ => rfl⟩
theorem occ_iff (s : ByteArray) (i : Nat) : Lib.occAt s.data.toList [13, 10] i = true ↔ s.data.toList[i]? = some 13 ∧ s.data.toList[i + 1]? = some 10 := by
  unfold Lib.occAt
  have e0 : (s.data.toList.drop i)[0]? = s.data.toList[i]? := by rw [List.getElem?_drop]; rfl
  have e1 : (s.data.toList.drop i)[1]? = s.data.toList[i + 1]? := by rw [List.getElem?_drop]
  rw [← e0, ← e1]
  generalize s.data.toList.drop i = r
  match r with
  | [] => simp [List.isPrefixOf]
  | [c] => simp [List.isPrefixOf]
  | c :: d :: r => simp [List.isPrefixOf]; constructor <;> (rintro ⟨a, b⟩; exact ⟨a.symm, b.symm⟩)
theorem at_q (s : ByteArray) (k : Nat) (hk : k < s.size) : s.data.toList[k]? = some s[k] := by
  rw [List.getElem?_eq_getElem (by rw [← Lib.size_eq]; exact hk), gdat s k hk]
theorem bq (c n : UInt8) (k : Int) (hk : ((n.toNat : Nat) : Int) = k) : (((c.toNat : Nat) : Int) == k) = decide (c = n) := by
  subst hk
  by_cases h : c = n
  · subst h; simp
  · rw [decide_eq_false h]
    have : ¬ ((c.toNat : Nat) : Int) = (n.toNat : Int) := fun e => h (UInt8.toNat_inj.1 (by omega))
    simpa using this
def NoE (s : ByteArray) (k : Nat) : Prop := ∀ j, j < k → Lib.occAt s.data.toList [13, 10] j = false
def enI (q : Option Nat) : Int := match q with | none => -1 | some k => (k : Int)
/-- what the document's Line answers -/
def lrV (q : Option Nat) (l : List UInt8) (most : Int) : Ending := match q with
  | none => if most < (l.length : Int) - 1 then .returned (.tuple #[.string ⟨#[]⟩, .int .i64 2]) else .returned (.tuple #[.string ⟨#[]⟩, .int .i64 1])
  | some k => if most < (k : Int) then .returned (.tuple #[.string ⟨#[]⟩, .int .i64 2]) else .returned (.tuple #[.string (mkS (l.take k)), .int .i64 0])
end Go.Proofs.YteegbcjpganobaaDoor.Hd
