/- Contracts of the document's own Is, Put and value: for every number; for every row of at most a thousand bytes. -/
import Derived.Test.YtkphainopofejaaDoorUtAwake
import Derived.Laws.BytesArg
namespace Go.Proofs.YtkphainopofejaaDoor.Ut
open Go.RowKit
set_option linter.unusedSimpArgs false
set_option linter.unusedVariables false

def isR (v : Int) : Bool := decide (0 ≤ v ∧ v ≤ 1114111 ∧ (v < 55296 ∨ 57343 < v))
/-- a rune's bytes -/
def putI (v : Int) : List Int :=
  if v < 128 then [v] else if v < 2048 then [192 + v / 64, 128 + v % 64] else if v < 65536 then [224 + v / 4096, 128 + v / 64 % 64, 128 + v % 64] else [240 + v / 262144, 128 + v / 4096 % 64, 128 + v / 64 % 64, 128 + v % 64]
theorem putI_len (v : Int) : 1 ≤ (putI v).length ∧ (putI v).length ≤ 4 := by unfold putI; (repeat' split) <;> simp

/-- a new slice of these bytes, and nothing else -/
def New (zs : List Int) (w : World) (e : Ending) (w' : World) : Prop := ∃ g cap, e = .returned (.slice (some ⟨g, 0, none⟩) zs.length cap) ∧ zs.length ≤ cap ∧ cap ≤ maxLen ∧ g < w'.heap.size ∧ Bts w' g 0 zs ∧ Below w.heap.size w w'

theorem bts_new (w : World) (zs : List Int) (cs : Array Value) (h : ∀ j (hj : j < zs.length), cs[j]? = some (.int .u8 zs[j])) : Bts (w.alloc (.cells cs 5)) w.heap.size 0 zs := by
  intro j hj
  rw [Nat.zero_add, World.cell?_alloc_at _ _ _ _ rfl]
  exact h j hj

theorem ret_i64 {a b : Int} (h : a = b) : Ending.returned (.int .i64 a) = .returned (.int .i64 b) := by rw [h]

end Go.Proofs.YtkphainopofejaaDoor.Ut
