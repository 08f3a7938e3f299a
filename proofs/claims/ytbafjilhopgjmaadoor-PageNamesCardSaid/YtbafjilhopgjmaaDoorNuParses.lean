/- Contracts of Parse, Size and Hex of package num, and of the cut to forty bytes: for every text of at most a thousand bytes. -/
import Derived.Test.YtbafjilhopgjmaaDoorNuReads
import Derived.Test.YtbafjilhopgjmaaDoorNuShelf
namespace Go.Proofs.YtbafjilhopgjmaaDoor.Nu
open Go.RowKit
set_option linter.unusedSimpArgs false
set_option linter.unusedVariables false

def negB (l : List UInt8) : Bool := Lib.hasPrefix l [45]
def bodyL (l : List UInt8) : List UInt8 := Lib.trimPrefix l [45]
def badB (l : List UInt8) : Bool := decide (1 < l.length ∧ l.getD 0 0 = 48)
def pN (l : List UInt8) : Int := if badB (bodyL l) then 0 else if negB l then -(rdN 10 9223372036854775808 (bodyL l)) else rdN 10 9223372036854775807 (bodyL l)
def pE (l : List UInt8) : Int := if badB (bodyL l) then 3 else if negB l then rdE 10 9223372036854775808 (bodyL l) else rdE 10 9223372036854775807 (bodyL l)
theorem rdN_bd (B M : Int) (hB : B = 10 ∨ B = 16) (hM : 0 ≤ M) (l : List UInt8) : 0 ≤ rdN B M l ∧ rdN B M l ≤ M := by
  unfold rdN
  split
  · rename_i h; exact ⟨(val_bd hB l h.2.1).1, h.2.2⟩
  · omega
theorem body_len (l : List UInt8) : (bodyL l).length ≤ l.length := by unfold bodyL Lib.trimPrefix; split <;> simp
theorem cut_c (s : ByteArray) (w : World) : Calls Tryd.prog 15 #[.string s, .string ⟨#[45]⟩] w fun e w' => e = .returned (.tuple #[.string (mkS (bodyL s.data.toList)), .bool (negB s.data.toList)]) ∧ w = w' := by
  have h : Calls Tryd.prog 15 #[.string s, .string ⟨#[45]⟩] w fun e w' => e = .returned (.tuple #[.string ⟨(Lib.trimPrefix s.data.toList (ByteArray.mk #[45]).data.toList).toArray⟩, .bool (Lib.hasPrefix s.data.toList (ByteArray.mk #[45]).data.toList)]) ∧ w' = w := Any.strings_CutPrefix Tryd.lays103 s ⟨#[45]⟩ w
  exact h.mono fun e w' hh => ⟨hh.1, hh.2.symm⟩
theorem getD_at (s : ByteArray) (k : Nat) (h : k < s.size) : s.data.toList.getD k 0 = s[k] := by
  rw [List.getD, Lib.data_getElem? s k h]; rfl
theorem byte_eq (s : ByteArray) (k : Nat) (h : k < s.size) (c : UInt8) (z : Int) (hz : z = (c.toNat : Int)) : ((s[k].toNat : Int) == z) = decide (s.data.toList.getD k 0 = c) := by
  subst hz
  rw [getD_at s k h]
  rw [Bool.eq_iff_iff]
  simp only [beq_iff_eq, decide_eq_true_eq]
  constructor
  · intro e; apply UInt8.toNat_inj.1; omega
  · intro e; rw [e]
theorem wrap_neg (n : Int) (h0 : 0 ≤ n) (h1 : n ≤ 9223372036854775808) : IntKind.i64.wrap (IntKind.u64.wrap (-n)) = -n := by
  rw [IntKind.wrap_u64, IntKind.wrap_i64]; omega

set_option maxRecDepth 100000 in
set_option maxHeartbeats 1000000 in
theorem parse_bad (s : ByteArray) (w : World) (hs : s.size ≤ 1000) (hb : badB (bodyL s.data.toList) = true) : Calls Tryd.prog 17 #[.string s] w fun e w' => e = .returned (.tuple #[.int .i64 0, .int .i64 3]) ∧ w = w' := by
  obtain ⟨b1, b2⟩ := of_decide_eq_true hb
  have HC := Lib.hid (fun W => cut_c s W)
  have hl := body_len s.data.toList
  rw [← Lib.size_eq] at hl
  have hsz : (mkS (bodyL s.data.toList)).size ≤ 1000 := by rw [size_mkS]; omega
  have hs1 : 1 < (mkS (bodyL s.data.toList)).size := by rw [size_mkS]; exact b1
  have hb2 : (mkS (bodyL s.data.toList)).data.toList.getD 0 0 = 48 := b2
  clear hb hl b1 b2
  revert HC hsz hs1 hb2
  generalize mkS (bodyL s.data.toList) = t
  generalize negB s.data.toList = neg
  intro HC hsz hs1 hb2
  have hs1' : (1 : Int) < (t.size : Int) := by omega
  have h0t : 0 < t.size := by omega
  have hq := byte_eq t 0 h0t 48 48 rfl
  rw [hb2] at hq
  simp only [decide_true] at hq
  clear hb2
  go_enter Tryd.func17, Tryd.ntmps17
  go_wp2_with fail
  refine (HC.out _).mono ?_
  rintro e w' ⟨rfl, rfl⟩
  go_wp2
  go_ret2
  exact ⟨rfl, rfl⟩

set_option maxRecDepth 100000 in
set_option maxHeartbeats 1000000 in
theorem parse_ok (s : ByteArray) (w : World) (hs : s.size ≤ 1000) (hb : badB (bodyL s.data.toList) = false) : Calls Tryd.prog 17 #[.string s] w fun e w' => e = .returned (.tuple #[.int .i64 (pN s.data.toList), .int .i64 (pE s.data.toList)]) ∧ w = w' := by
  have hn := of_decide_eq_false hb
  have HC := Lib.hid (fun W => cut_c s W)
  have hl := body_len s.data.toList
  rw [← Lib.size_eq] at hl
  have hsz : (mkS (bodyL s.data.toList)).size ≤ 1000 := by rw [size_mkS]; omega
  have HN : Hid (pN s.data.toList = if negB s.data.toList then -(rdN 10 9223372036854775808 (bodyL s.data.toList)) else rdN 10 9223372036854775807 (bodyL s.data.toList)) := by
    show pN s.data.toList = _
    unfold pN; rw [hb]; rfl
  have HE : Hid (pE s.data.toList = if negB s.data.toList then rdE 10 9223372036854775808 (bodyL s.data.toList) else rdE 10 9223372036854775807 (bodyL s.data.toList)) := by
    show pE s.data.toList = _
    unfold pE; rw [hb]; rfl
  have hh : ∀ (h0 : 0 < (mkS (bodyL s.data.toList)).size), 1 < (mkS (bodyL s.data.toList)).size → ((((mkS (bodyL s.data.toList))[0]'h0).toNat : Int) == 48) = false := fun h0 h => by
    rw [byte_eq (mkS (bodyL s.data.toList)) 0 h0 48 48 rfl]
    apply decide_eq_false
    intro e
    exact hn ⟨by rw [size_mkS] at h; exact h, e⟩
  clear hb hl hn
  cases hneg : negB s.data.toList with
  | true =>
    have HR := Lib.hid (fun W => read10_c (mkS (bodyL s.data.toList)) 9223372036854775808 W hsz (by decide) (by decide))
    rw [data_mkS] at HR
    obtain ⟨n0, n1⟩ := rdN_bd 10 9223372036854775808 (.inl rfl) (by decide) (bodyL s.data.toList)
    rw [hneg] at HC HN HE
    clear hneg
    revert HC HN HE HR hsz hh n0 n1
    generalize mkS (bodyL s.data.toList) = t
    generalize rdN 10 9223372036854775808 (bodyL s.data.toList) = n
    generalize rdE 10 9223372036854775808 (bodyL s.data.toList) = e0
    intro HC hsz HN HE hh HR n0 n1
    have hwr := wrap_neg n n0 n1
    by_cases h1 : 1 < t.size
    · have h1' : (1 : Int) < (t.size : Int) := by omega
      have h0t : 0 < t.size := by omega
      have hq := hh h0t h1
      clear hh
      go_enter Tryd.func17, Tryd.ntmps17
      go_wp2_with fail
      refine (HC.out _).mono ?_
      rintro e w' ⟨rfl, rfl⟩
      go_wp2_with fail
      refine (HR.out _).mono ?_
      rintro e w' ⟨rfl, rfl⟩
      go_wp2
      go_ret2
      exact ⟨ret2_ii (by rw [HN.out]; rfl) (by rw [HE.out]; rfl), rfl⟩
    · have h1' : ¬ (1 : Int) < (t.size : Int) := by omega
      clear hh
      go_enter Tryd.func17, Tryd.ntmps17
      go_wp2_with fail
      refine (HC.out _).mono ?_
      rintro e w' ⟨rfl, rfl⟩
      go_wp2_with fail
      refine (HR.out _).mono ?_
      rintro e w' ⟨rfl, rfl⟩
      go_wp2
      go_ret2
      exact ⟨ret2_ii (by rw [HN.out]; rfl) (by rw [HE.out]; rfl), rfl⟩
  | false =>
    have HR := Lib.hid (fun W => read10_c (mkS (bodyL s.data.toList)) 9223372036854775807 W hsz (by decide) (by decide))
    rw [data_mkS] at HR
    obtain ⟨n0, n1⟩ := rdN_bd 10 9223372036854775807 (.inl rfl) (by decide) (bodyL s.data.toList)
    rw [hneg] at HC HN HE
    clear hneg
    revert HC HN HE HR hsz hh n0 n1
    generalize mkS (bodyL s.data.toList) = t
    generalize rdN 10 9223372036854775807 (bodyL s.data.toList) = n
    generalize rdE 10 9223372036854775807 (bodyL s.data.toList) = e0
    intro HC hsz HN HE hh HR n0 n1
    by_cases h1 : 1 < t.size
    · have h1' : (1 : Int) < (t.size : Int) := by omega
      have h0t : 0 < t.size := by omega
      have hq := hh h0t h1
      clear hh
      go_enter Tryd.func17, Tryd.ntmps17
      go_wp2_with fail
      refine (HC.out _).mono ?_
      rintro e w' ⟨rfl, rfl⟩
      go_wp2_with fail
      refine (HR.out _).mono ?_
      rintro e w' ⟨rfl, rfl⟩
      go_wp2
      go_ret2
      exact ⟨ret2_ii (by rw [HN.out]; rfl) (by rw [HE.out]; rfl), rfl⟩
    · have h1' : ¬ (1 : Int) < (t.size : Int) := by omega
      clear hh
      go_enter Tryd.func17, Tryd.ntmps17
      go_wp2_with fail
      refine (HC.out _).mono ?_
      rintro e w' ⟨rfl, rfl⟩
      go_wp2_with fail
      refine (HR.out _).mono ?_
      rintro e w' ⟨rfl, rfl⟩
      go_wp2
      go_ret2
      exact ⟨ret2_ii (by rw [HN.out]; rfl) (by rw [HE.out]; rfl), rfl⟩

theorem parse_c (s : ByteArray) (w : World) (hs : s.size ≤ 1000) : Calls Tryd.prog 17 #[.string s] w fun e w' => e = .returned (.tuple #[.int .i64 (pN s.data.toList), .int .i64 (pE s.data.toList)]) ∧ w = w' := by
  cases hb : badB (bodyL s.data.toList) with
  | true =>
    have e1 : pN s.data.toList = 0 := by unfold pN; rw [hb]; rfl
    have e2 : pE s.data.toList = 3 := by unfold pE; rw [hb]; rfl
    rw [e1, e2]
    exact parse_bad s w hs hb
  | false => exact parse_ok s w hs hb

def shortL (l : List UInt8) : List UInt8 := l.take 40
theorem short_sz (a : ByteArray) : (mkS (shortL a.data.toList)).size ≤ 40 := by rw [size_mkS]; unfold shortL; rw [List.length_take]; omega
end Go.Proofs.YtbafjilhopgjmaaDoor.Nu
