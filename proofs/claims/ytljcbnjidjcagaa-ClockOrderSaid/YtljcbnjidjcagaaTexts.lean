/- Rows of bytes that a call may write; contracts of put of package clock and of the document's own digits: a number's last digits, for numbers not below 0 and at most nine digits. -/
import Derived.Test.YtljcbnjidjcagaaDates
import Derived.ChangeOld
import Derived.Laws.IdiomStrings
import Derived.Lib.IndexBytes
namespace Go.Proofs.Ytljcbnjidjcagaa
open Go.RowKit
set_option linter.unusedSimpArgs false
set_option linter.unusedVariables false

theorem ret_str {a b : ByteArray} (h : a = b) : Ending.returned (.string a) = .returned (.string b) := by rw [h]
def mkS (l : List UInt8) : ByteArray := ⟨l.toArray⟩
theorem mkS_of {s : ByteArray} {l : List UInt8} (h : s.data.toList = l) : s = mkS l := by subst h; exact (Lib.mk_data s).symm
theorem data_mkS (l : List UInt8) : (mkS l).data.toList = l := rfl
theorem size_mkS (l : List UInt8) : (mkS l).size = l.length := by rw [Lib.size_eq, data_mkS]
theorem mkS_inj {a b : List UInt8} (h : mkS a = mkS b) : a = b := by have := congrArg (fun s : ByteArray => s.data.toList) h; simpa [data_mkS] using this
theorem app_data (a b : ByteArray) : (a ++ b).data.toList = a.data.toList ++ b.data.toList := by simp
theorem mkS_app (a b : List UInt8) : mkS a ++ mkS b = mkS (a ++ b) := mkS_of (by rw [app_data, data_mkS, data_mkS])
theorem gdat (s : ByteArray) (k : Nat) (h : k < s.size) : s.data.toList[k]'(by rw [← Lib.size_eq]; exact h) = s[k] := by
  have := Lib.data_getElem? s k h
  rw [List.getElem?_eq_getElem (by rw [← Lib.size_eq]; exact h)] at this
  exact Option.some.inj this
theorem take_snoc {s : ByteArray} {k : Nat} (hk : k < s.size) : s.data.toList.take (k + 1) = s.data.toList.take k ++ [s[k]] := by
  rw [List.take_succ_eq_append_getElem (by rw [← Lib.size_eq]; exact hk), gdat s k hk]

/-- block g holds just these bytes, and may be written -/
def BRow (w : World) (g : Nat) (l : List UInt8) : Prop := ∀ j (hj : j < l.length), w.cell? ⟨g, j, none⟩ = some (.int .u8 (l[j].toNat : Int)) ∧ w.frozen? ⟨g, j, none⟩ = false
theorem BRow.set {w : World} {g : Nat} {l : List UInt8} (h : BRow w g l) (k : Nat) (b : UInt8) : BRow (w.setCell ⟨g, k, none⟩ (.int .u8 (b.toNat : Int))) g (l.set k b) := by
  intro j hj
  have hj' : j < l.length := by simpa using hj
  refine ⟨?_, (World.frozen?_setCell _ _ _ _).trans (h j hj').2⟩
  by_cases e : k = j
  · subst e
    rw [World.cell?_setCell_same w _ _ (h k hj').1]
    simp
  · rw [World.cell?_setCell_other w _ _ _ (by intro he; injection he; omega), (h j hj').1]
    simp [e]
theorem bytes_back {w : World} {g : Nat} {l : List UInt8} (h : BRow w g l) (n cap : Nat) (hn : n = l.length) : (convert 45 9 (.slice (some ⟨g, 0, none⟩) n cap)).run Try.prog w = .ok (.string (mkS l)) w := by
  subst hn
  exact run_convert_bytes_back w 45 9 5 ⟨g, 0, none⟩ cap l Try.underlying45 Try.underlying5 Try.underlying9 (fun j hj => by
    have e : (⟨g, 0, none⟩ : Addr).add j = ⟨g, j, none⟩ := by unfold Addr.add; split <;> simp_all
    rw [e]; exact (h j hj).1)

/-- what put has left to write behind i rounds -/
def putL (l : List UInt8) (off k : Nat) (n : Int) : List UInt8 := l.take off ++ digs k n ++ l.drop (off + k)
theorem putL_zero (l : List UInt8) (off : Nat) (n : Int) : putL l off 0 n = l := by unfold putL; simp [digs]
theorem putL_len (l : List UInt8) (off k : Nat) (n : Int) (h : off + k ≤ l.length) : (putL l off k n).length = l.length := by
  unfold putL; simp only [List.length_append, List.length_take, List.length_drop, digs_len]; omega
theorem putL_step (l : List UInt8) (off k : Nat) (n : Int) (h : off + (k + 1) ≤ l.length) : putL (l.set (off + k) (dig1 n)) off k (n / 10) = putL l off (k + 1) n := by
  unfold putL
  have e1 : (l.set (off + k) (dig1 n)).take off = l.take off := List.take_set_of_le (by omega)
  have e2 : (l.set (off + k) (dig1 n)).drop (off + k) = dig1 n :: l.drop (off + (k + 1)) := by
    rw [List.drop_set, if_neg (by omega), Nat.sub_self, List.drop_eq_getElem_cons (by omega), List.set_cons_zero]
    rfl
  rw [e1, e2]
  simp [digs]

/-- behind the call the row is l with n's last digits in it, and nothing below B has changed -/
def PutPost (B g : Nat) (l : List UInt8) (w : World) (e : Ending) (w' : World) : Prop := e = .returned (.tuple #[]) ∧ BRow w' g l ∧ Below B w w'

set_option maxHeartbeats 2000000 in
theorem put_c (B g off k cap : Nat) (l : List UInt8) (n : Int) (w : World) (h0 : 0 ≤ n) (h1 : n ≤ 1000000000) (hk : off + k ≤ l.length) (hk9 : k ≤ 9) (hl : l.length ≤ 1000) (hB : B ≤ g) (hrow : BRow w g l) :
    Calls Try.prog 21 #[.slice (some ⟨g, off, none⟩) k cap, .int .i64 n] w (PutPost B g (putL l off k n) w) := by
  have HR := Lib.hid hrow
  clear hrow
  go_enter Try.func21, Try.ntmps21
  go_wp2
  go_loopw [1, 7] (fun v i wr => ∃ (j q : Nat) (m : Int) (r : List UInt8), i = .int .i64 j ∧ j + q = k ∧ v = .int .i64 m ∧ 0 ≤ m ∧ m ≤ 1000000000 ∧ r.length = l.length ∧ putL r off q m = putL l off k n ∧ BRow wr g r ∧ Below B w wr) (fun _ i _ => k - (intOf i).toNat)
  case atStart => exact ⟨0, k, n, l, rfl, by omega, rfl, h0, h1, rfl, rfl, HR.out, Below.refl _ _⟩
  case round =>
    clear HR
    obtain ⟨j, q, m, r, rfl, hq, rfl, hm0, hm1, hrl, hp, hrow, hb⟩ := hrel
    have HQ := Lib.hid hq
    have HRL := Lib.hid hrl
    have HP := Lib.hid hp
    have HR := Lib.hid hrow
    have HB := Lib.hid hb
    by_cases hlt : j < k
    · obtain ⟨p, rfl⟩ : ∃ p, q = p + 1 := ⟨q - 1, by omega⟩
      have hlt2 : off + p < r.length := by omega
      obtain ⟨z, hc⟩ : ∃ z : UInt8, wr.cell? ⟨g, off + p, none⟩ = some (.int .u8 (z.toNat : Int)) := ⟨_, (hrow (off + p) hlt2).1⟩
      have hf : wr.frozen? ⟨g, off + p, none⟩ = false := (hrow (off + p) hlt2).2
      have HS := Lib.hid (putL_step r off p m (by omega))
      have HD := Lib.hid (dig1_nat m)
      have ei : (k : Int) - 1 - (j : Int) = (p : Int) := by omega
      clear hq hrl hp hrow hb
      go_wp2
      go_roundw
      case rel =>
        refine ⟨j + 1, p, m / 10, r.set (off + p) (dig1 m), by go_num, by have := HQ.out; omega, rfl, by omega, by omega, by rw [List.length_set]; exact HRL.out, by rw [HS.out]; exact HP.out, ?_, HB.out.setCell (by simp; omega) _⟩
        have := HR.out.set (off + p) (dig1 m)
        rw [HD.out] at this
        exact this
      case measure => simp [intOf]; omega
    · obtain rfl : q = 0 := by omega
      rw [putL_zero] at HP
      clear hq hrl hp hrow hb
      go_wp2
      go_end0
      exact ⟨rfl, by rw [← HP.out]; exact HR.out, HB.out⟩

theorem one_conv (w : World) (b : UInt8) (x : Int) (hx : x = (b.toNat : Int)) : (convert 45 9 (.slice (some ⟨w.heap.size, 0, none⟩) 1 1)).run Try.prog (w.alloc (.cells #[.int .u8 x] 5)) = .ok (.string (mkS [b])) (w.alloc (.cells #[.int .u8 x] 5)) := by
  subst hx
  refine run_convert_bytes_back _ 45 9 5 ⟨w.heap.size, 0, none⟩ 1 [b] Try.underlying45 Try.underlying5 Try.underlying9 (fun j hj => ?_)
  obtain rfl : j = 0 := by simpa using hj
  rw [show (⟨w.heap.size, 0, none⟩ : Addr).add 0 = ⟨w.heap.size, 0, none⟩ from rfl, World.cell?_alloc_at _ _ _ _ rfl]
  rfl

set_option maxHeartbeats 2000000 in
theorem digits_r (k : Nat) (n : Int) (w : World) (h0 : 0 ≤ n) (h1 : n ≤ 1000000000) (hk9 : k ≤ 9) : Calls Try.prog 24 #[.int .i64 n, .int .i64 (k : Int)] w fun e w' => e = .returned (.string (mkS (digs k n))) ∧ Below w.heap.size w w' := by
  go_enter Try.func24, Try.ntmps24
  go_wp2
  go_loopw [0, 5, 6] (fun v u i wr => ∃ (j q : Nat) (m : Int) (t : List UInt8), i = .int .i64 j ∧ j + q = k ∧ v = .int .i64 m ∧ 0 ≤ m ∧ m ≤ 1000000000 ∧ u = .string (mkS t) ∧ t.length = j ∧ digs q m ++ t = digs k n ∧ Below w.heap.size w wr ∧ w.heap.size ≤ wr.heap.size) (fun _ _ i _ => k - (intOf i).toNat)
  case atStart => exact ⟨0, k, n, [], rfl, by omega, rfl, h0, h1, rfl, rfl, by simp, Below.refl _ _, Nat.le_refl _⟩
  case round =>
    obtain ⟨j, q, m, t, rfl, hq, rfl, hm0, hm1, rfl, htl, hp, hb, hz⟩ := hrel
    have HQ := Lib.hid hq
    have HTL := Lib.hid htl
    have HP := Lib.hid hp
    have HB := Lib.hid hb
    by_cases hlt : j < k
    · obtain ⟨p, rfl⟩ : ∃ p, q = p + 1 := ⟨q - 1, by omega⟩
      have hts : (mkS t).size ≤ 9 := by rw [size_mkS]; omega
      have hcv := one_conv wr (dig1 m) (48 + m % 10) (dig1_nat m).symm
      have hz1 : (mkS [dig1 m]).size = 1 := size_mkS _
      have HL : Hid (mkS [dig1 m] ++ mkS t = mkS (dig1 m :: t)) := mkS_app _ _
      revert hcv hz1 HL hts
      generalize mkS [dig1 m] = y
      generalize hS : mkS t = tS
      intro hts hcv hz1 HL
      clear hq htl hp hb hS
      go_wp2
      go_roundw
      case rel => exact ⟨j + 1, p, m / 10, dig1 m :: t, by go_num, by have := HQ.out; omega, rfl, by omega, by omega, by rw [HL.out], by rw [List.length_cons, HTL.out], by rw [← HP.out]; simp [digs], HB.out.alloc hz _, by simp; omega⟩
      case measure => simp [intOf]; omega
    · obtain rfl : q = 0 := by omega
      clear hq htl hp hb
      go_wp2
      go_ret
      exact ⟨ret_str (by rw [← HP.out]; simp [digs]), HB.out⟩
end Go.Proofs.Ytljcbnjidjcagaa
