/- Contract of the document's own Hex: for every text of at most a thousand bytes. -/
import Derived.Test.YtbafjilhopgjmaaDoorNuHexes
namespace Go.Proofs.YtbafjilhopgjmaaDoor.Nu
open Go.RowKit
set_option linter.unusedSimpArgs false
set_option linter.unusedVariables false

theorem hex_big {l : List UInt8} (ha : l.all (okD 16) = true) (h : 8 < (stripL l).length) : ¬ val 16 l ≤ 2147483647 := by
  have := strip_big (.inr rfl) l ha 8 h (by decide)
  have e : (16 : Int) ^ 8 = 4294967296 := by decide
  omega
theorem hex_small {l : List UInt8} (ha : l.all (okD 16) = true) (h : (stripL l).length < 8) : val 16 l ≤ 2147483647 := by
  have h1 := strip_small (.inr rfl) l ha
  have h2 := pow_mono (B := 16) (.inr rfl) (n := (stripL l).length) (m := 7) (by omega)
  have e : (16 : Int) ^ 7 = 268435456 := by decide
  omega
theorem hex_eight {l : List UInt8} (ha : l.all (okD 16) = true) (h : (stripL l).length = 8) (b : UInt8) (hb : (stripL l).getD 0 0 = b) : (val 16 l ≤ 2147483647 ↔ hvU b ≤ 7) := by
  have hs := strip_all _ l ha
  have hv := strip_val 16 l
  cases e : stripL l with
  | nil => rw [e] at h; simp at h
  | cons c t =>
    rw [e] at h hs hv hb
    have hc : c = b := by simpa [List.getD] using hb
    subst hc
    rw [List.all_cons, Bool.and_eq_true] at hs
    have hl : t.length = 7 := by simpa using h
    have hb2 := okD_bd hs.1
    have hv2 := val_bd (.inr rfl) t hs.2
    rw [val_cons, hl] at hv
    rw [hl] at hv2
    have e7 : (16 : Int) ^ 7 = 268435456 := by decide
    rw [e7] at hv hv2
    omega
theorem ok16 (b : UInt8) : okD 16 b = decide (0 ≤ hv (b.toNat : Int)) := by
  unfold okD hvU
  have := (hv_bd (b.toNat : Int)).2
  rw [Bool.eq_iff_iff]
  simp only [decide_eq_true_eq]
  omega

/-- the rest of Hex behind the test of its digits: the loop that reads them -/
def H2 (t : ByteArray) (w : World) (k : Nat) (v : Value) (wr : World) : Prop := v = .int .i64 (val 16 (t.data.toList.take k)) ∧ Below w.heap.size w wr

end Go.Proofs.YtbafjilhopgjmaaDoor.Nu
