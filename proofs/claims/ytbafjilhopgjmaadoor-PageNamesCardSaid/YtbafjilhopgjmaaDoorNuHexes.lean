/- Contracts of the document's own digit and Hex: for every byte, and for every text of at most a thousand bytes. -/
import Derived.Test.YtbafjilhopgjmaaDoorNuRefs4
import Derived.Lib.SlBytesConst
import Derived.Laws.IdiomStrings
namespace Go.Proofs.YtbafjilhopgjmaaDoor.Nu
open Go.RowKit
set_option linter.unusedSimpArgs false
set_option linter.unusedVariables false

def tabL : List Int := [48, 49, 50, 51, 52, 53, 54, 55, 56, 57, 97, 98, 99, 100, 101, 102, 65, 66, 67, 68, 69, 70]
def tabA : Array Value := #[.int .u8 48, .int .u8 49, .int .u8 50, .int .u8 51, .int .u8 52, .int .u8 53, .int .u8 54, .int .u8 55, .int .u8 56, .int .u8 57, .int .u8 97, .int .u8 98, .int .u8 99, .int .u8 100, .int .u8 101, .int .u8 102, .int .u8 65, .int .u8 66, .int .u8 67, .int .u8 68, .int .u8 69, .int .u8 70]
theorem tabA_eq : tabA = (tabL.map (fun z => Value.int .u8 z)).toArray := rfl
theorem tab_at (k : Nat) (hk : k < 22) : tabA[k]? = some (.int .u8 (tabL.getD k 0)) := by
  have h : k < tabL.length := hk
  rw [tabA_eq, List.getElem?_toArray, List.getElem?_map, List.getD, List.getElem?_eq_getElem h]; rfl
theorem tab_cell (w : World) (k : Nat) (hk : k < 22) : (w.alloc (.cells tabA 5 (22, 23))).cell? ⟨w.heap.size, k, none⟩ = some (.int .u8 (tabL.getD k 0)) := by
  rw [World.cell?_alloc_mark]; exact tab_at k hk
theorem tab_hv : ∀ k : Fin 22, hv (tabL.getD k.val 0) = if k.val < 16 then (k.val : Int) else (k.val : Int) - 6 := by decide +kernel
theorem tab_no : ∀ n : Fin 256, (List.range 22).all (fun j => decide (tabL.getD j 0 ≠ (n.val : Int))) = true → hv (n.val : Int) = -1 := by decide +kernel
theorem hv_none (c : Int) (h0 : 0 ≤ c) (h1 : c ≤ 255) (h : ∀ j, j < 22 → tabL.getD j 0 ≠ c) : hv c = -1 := by
  have := tab_no ⟨c.toNat, by omega⟩
  have e : ((c.toNat : Nat) : Int) = c := by omega
  simp only [e] at this
  exact this (List.all_eq_true.2 fun j hj => decide_eq_true (h j (List.mem_range.1 hj)))

end Go.Proofs.YtbafjilhopgjmaaDoor.Nu
