/- Contracts of Lower and Same of package chars, and of the document's own Lower: for every text of at most a thousand bytes. -/
import Derived.Test.YteegbcjpganobaaDoorChCuts
import Derived.Laws.IdiomStrings
namespace Go.Proofs.YteegbcjpganobaaDoor.Ch
open Go.RowKit
set_option linter.unusedSimpArgs false
set_option linter.unusedVariables false

/-- block g holds just these bytes, and may be written -/
def BRow (w : World) (g : Nat) (l : List UInt8) : Prop := ∀ j (hj : j < l.length), w.cell? ⟨g, j, none⟩ = some (.int .u8 (l[j].toNat : Int)) ∧ w.frozen? ⟨g, j, none⟩ = false
theorem BRow.set {w : World} {g : Nat} {l : List UInt8} (h : BRow w g l) (k : Nat) (b : UInt8) : BRow (w.setCell ⟨g, k, none⟩ (.int .u8 (b.toNat : Int))) g (l.set k b) := by
  intro j hj
  have hj' : j < l.length := by simpa using hj
  refine ⟨?_, (World.frozen?_setCell _ _ _ _).trans (h j hj').2⟩
  by_cases e : k = j
  · subst e
    rw [World.cell?_setCell_same w _ _ (h k hj').1]
    simp
  · rw [World.cell?_setCell_other w _ _ _ (by intro he; injection he; omega), (h j hj').1]
    simp [e]
theorem bytes_conv (s : ByteArray) (w : World) : ∃ cap W0, (convert 9 34 (.string s)).run Tryd.prog w = .ok (.slice (some ⟨w.heap.size, 0, none⟩) s.size cap) W0 ∧ BRow W0 w.heap.size s.data.toList ∧ Below w.heap.size w W0 := by
  refine ⟨_, _, run_bytes_of_string w 9 34 5 s Tryd.underlying9 Tryd.underlying34 Tryd.underlying5, ?_, ((Below.refl _ _).drew).alloc (Nat.le_refl _) _⟩
  intro j hj
  have hj' : j < s.size := by rw [Lib.size_eq]; exact hj
  have hg : grownCap w s.size 0 5 = grownCap w s.size 0 5 := rfl
  have e1 : w.heap.size = w.drew.heap.size := rfl
  refine ⟨?_, ?_⟩
  · rw [e1, World.cell?_alloc_mark, bytesRow_at s _ j hj']; rfl
  · rw [e1, World.frozen?_alloc_mark]
    have hbs : ∀ c, (bytesRow s c).size = s.size + (c - s.size) := fun c => by unfold bytesRow; rw [Array.size_append, Array.size_map, Array.size_replicate]; rfl
    have : ¬ (bytesRow s (grownCap w s.size 0 5)).size ≤ j := by rw [hbs]; omega
    simp [this]
theorem bytes_back {w : World} {g : Nat} {l : List UInt8} (h : BRow w g l) (n cap : Nat) (hn : n = l.length) : (convert 34 9 (.slice (some ⟨g, 0, none⟩) n cap)).run Tryd.prog w = .ok (.string (mkS l)) w := by
  subst hn
  exact run_convert_bytes_back w 34 9 5 ⟨g, 0, none⟩ cap l Tryd.underlying34 Tryd.underlying5 Tryd.underlying9 (fun j hj => by
    have e : (⟨g, 0, none⟩ : Addr).add j = ⟨g, j, none⟩ := by unfold Addr.add; split <;> simp_all
    rw [e]; exact (h j hj).1)

def low_k (l : List UInt8) (k : Nat) : List UInt8 := lowL (l.take k) ++ l.drop k
theorem low_k_len (l : List UInt8) (k : Nat) : (low_k l k).length = l.length := by unfold low_k lowL; simp; omega
theorem low_k_at (l : List UInt8) (k : Nat) (hk : k < l.length) : (low_k l k)[k]'(by rw [low_k_len]; exact hk) = l[k] := by
  have hl : (lowL (l.take k)).length = k := by unfold lowL; simp; omega
  unfold low_k
  rw [List.getElem_append_right (by omega)]
  simp [hl]
theorem low_k_same (l : List UInt8) (k : Nat) (hk : k < l.length) (h : lowB l[k] = l[k]) : low_k l (k + 1) = low_k l k := by
  unfold low_k lowL
  rw [List.take_succ_eq_append_getElem hk, List.map_append, List.drop_eq_getElem_cons hk]
  simp [h]
theorem low_k_set (l : List UInt8) (k : Nat) (hk : k < l.length) : low_k l (k + 1) = (low_k l k).set k (lowB l[k]) := by
  have hl : (List.map lowB (l.take k)).length = k := by simp; omega
  unfold low_k lowL
  rw [List.take_succ_eq_append_getElem hk, List.map_append, List.set_append_right _ _ (by omega), hl, Nat.sub_self]
  have e : (l.drop k).set 0 (lowB l[k]) = lowB l[k] :: l.drop (k + 1) := by rw [List.drop_eq_getElem_cons hk, List.set_cons_zero]
  rw [e]
  simp
theorem low_gre {b : UInt8} (h : greB (b.toNat : Int) = true) : ((lowB b).toNat : Int) = (b.toNat : Int) + 32 := by
  unfold lowB
  rw [h]
  have h2 := of_decide_eq_true h
  rw [if_pos rfl, UInt8.toNat_add]
  have : (32 : UInt8).toNat = 32 := rfl
  rw [this]
  omega
theorem low_not {b : UInt8} (h : greB (b.toNat : Int) = false) : lowB b = b := by unfold lowB; rw [h]; rfl

/-- what the document's loop keeps behind k bytes -/
def LRel (l : List UInt8) (k : Nat) (u : Value) : Prop := ∃ t : ByteArray, u = .string t ∧ t.size = k ∧ t.data.toList = lowL (l.take k)

theorem one_conv (w : World) (b : UInt8) (x : Int) (hx : x = (b.toNat : Int)) : (convert 34 9 (.slice (some ⟨w.heap.size, 0, none⟩) 1 1)).run Tryd.prog (w.alloc (.cells #[.int .u8 x] 5)) = .ok (.string (mkS [b])) (w.alloc (.cells #[.int .u8 x] 5)) := by
  subst hx
  refine run_convert_bytes_back _ 34 9 5 ⟨w.heap.size, 0, none⟩ 1 [b] Tryd.underlying34 Tryd.underlying5 Tryd.underlying9 (fun j hj => ?_)
  obtain rfl : j = 0 := by simpa using hj
  rw [show (⟨w.heap.size, 0, none⟩ : Addr).add 0 = ⟨w.heap.size, 0, none⟩ from rfl, World.cell?_alloc_at _ _ _ _ rfl]
  rfl
theorem lrel_step {s t : ByteArray} {k : Nat} (hk : k < s.size) (ht : t.data.toList = lowL (s.data.toList.take k)) (hz : t.size = k) : LRel s.data.toList (k + 1) (.string (t ++ mkS [lowB s[k]])) := by
  have e : (t ++ mkS [lowB s[k]]).data.toList = lowL (s.data.toList.take k) ++ [lowB s[k]] := by rw [app_data, data_mkS, ht]
  refine ⟨_, rfl, ?_, ?_⟩
  · rw [Lib.size_eq, e, ← ht, List.length_append, ← Lib.size_eq, hz]; rfl
  · rw [e, take_snoc hk]; unfold lowL; rw [List.map_append]; rfl

theorem str_eq (a b : List UInt8) : ((mkS a).toList == (mkS b).toList) = decide (a = b) := by rw [str_empty, str_empty]; rw [Bool.eq_iff_iff]; simp

end Go.Proofs.YteegbcjpganobaaDoor.Ch
