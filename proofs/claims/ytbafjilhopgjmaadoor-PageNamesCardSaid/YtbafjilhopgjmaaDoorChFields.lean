/- Contracts of Fields and Cut, of both packages: the parts that the document asks for, in memory of the call's own; for every text of at most a thousand bytes and every byte. -/
import Derived.Test.YtbafjilhopgjmaaDoorChTrims
import Derived.Lib.SmallJoins
namespace Go.Proofs.YtbafjilhopgjmaaDoor.Ch
open Go.RowKit
set_option linter.unusedSimpArgs false
set_option linter.unusedVariables false

def vs (ss : List (List UInt8)) : List Value := ss.map (fun l => .string (mkS l))
theorem vs_len (ss : List (List UInt8)) : (vs ss).length = ss.length := by simp [vs]
theorem vs_app (a b : List (List UInt8)) : vs (a ++ b) = vs a ++ vs b := by simp [vs]
/-- the call hands back a slice of its own, of just these texts, and leaves what lies below B as it was -/
def Owned (B : Nat) (ss : List (List UInt8)) (w : World) (e : Ending) (w' : World) : Prop := ∃ v, e = .returned v ∧ w'.ownsRow B 9 1 v ss.length (vs ss) ∧ Below B w w' 

theorem info9 : (Tryd.prog.info? 9).map (fun i => (i.zero, i.size, i.bytes)) = some (some (.string ByteArray.empty), 1, 16) := by kernel_rfl

theorem str_empty (l : List UInt8) : (mkS l).toList = l := by rw [Lib.toList_data, data_mkS]

/-- what the loop of Fields keeps: what has been gathered, and what is left -/
def FRel (B : Nat) (c : UInt8) (l : List UInt8) (w : World) (v0 v : Value) (wr : World) : Prop :=
  ∃ (t : ByteArray) (ss : List (List UInt8)), v0 = .string t ∧ t.size ≤ l.length ∧ ss.length + t.size ≤ l.length ∧ ss ++ fieldsL c t.data.toList = fieldsL c l ∧ wr.ownsRow B 9 1 v ss.length (vs ss) ∧ Below B w wr ∧ B ≤ wr.heap.size

theorem frel_step {B : Nat} {c : UInt8} {l : List UInt8} {w wr w1 : World} {v' : Value} {t : ByteArray} {ss : List (List UInt8)} {k : Nat} (hk : k < t.size)
    (h2 : ss.length + t.size ≤ l.length) (h3 : ss ++ fieldsL c t.data.toList = fieldsL c l) (h5 : Below B w wr) (h6 : B ≤ wr.heap.size)
    (hn : ¬ c ∈ t.data.toList.take k) (h4 : t.data.toList = t.data.toList.take k ++ c :: t.data.toList.drop (k + 1))
    (hO : w1.ownsRow B 9 1 v' (ss ++ keepL (t.extract 0 k).data.toList).length (vs (ss ++ keepL (t.extract 0 k).data.toList))) (hb : Below B wr w1) : FRel B c l w (.string (t.extract (k + 1) t.size)) v' w1 := by
  have e0 : (t.extract 0 k).data.toList = t.data.toList.take k := by rw [Lib.extract_data]; simp
  have hz : (t.extract (k + 1) t.size).size = t.size - (k + 1) := by rw [Lib.size_eq, Lib.extract_to_end, List.length_drop, ← Lib.size_eq]
  rw [e0] at hO
  refine ⟨_, ss ++ keepL (t.data.toList.take k), rfl, by omega, ?_, ?_, hO, h5.trans hb, Nat.le_trans h6 hb.size⟩
  · rw [List.length_append, hz]; have := keepL_len (t.data.toList.take k); omega
  · rw [Lib.extract_to_end, List.append_assoc, ← h3, ← fields_at c _ _ hn, ← h4]
theorem frel_end {B : Nat} {c : UInt8} {l : List UInt8} {w wr w1 : World} {v' : Value} {t : ByteArray} {ss : List (List UInt8)}
    (h3 : ss ++ fieldsL c t.data.toList = fieldsL c l) (h5 : Below B w wr) (hn : ¬ c ∈ t.data.toList)
    (hO : w1.ownsRow B 9 1 v' (ss ++ keepL t.data.toList).length (vs (ss ++ keepL t.data.toList))) (hb : Below B wr w1) : Owned B (fieldsL c l) w (.returned v') w1 := by
  rw [← fields_none c _ hn, h3] at hO
  exact ⟨v', rfl, hO, h5.trans hb⟩

end Go.Proofs.YtbafjilhopgjmaaDoor.Ch
