/- Contracts of the document's own digit and Hex: for every byte, and for every text of at most a thousand bytes. -/
import Derived.Test.YtmnodjbmaifglaaDoorNuRefs4
import Derived.Lib.SlBytesConst
import Derived.Laws.IdiomStrings
namespace Go.Proofs.YtmnodjbmaifglaaDoor.Nu
open Go.RowKit
set_option linter.unusedSimpArgs false
set_option linter.unusedVariables false

def tabL : List Int := [48, 49, 50, 51, 52, 53, 54, 55, 56, 57, 97, 98, 99, 100, 101, 102, 65, 66, 67, 68, 69, 70]
def tabA : Array Value := #[.int .u8 48, .int .u8 49, .int .u8 50, .int .u8 51, .int .u8 52, .int .u8 53, .int .u8 54, .int .u8 55, .int .u8 56, .int .u8 57, .int .u8 97, .int .u8 98, .int .u8 99, .int .u8 100, .int .u8 101, .int .u8 102, .int .u8 65, .int .u8 66, .int .u8 67, .int .u8 68, .int .u8 69, .int .u8 70]
theorem tabA_eq : tabA = (tabL.map (fun z => Value.int .u8 z)).toArray := rfl
theorem tab_at (k : Nat) (hk : k < 22) : tabA[k]? = some (.int .u8 (tabL.getD k 0)) := by
  have h : k < tabL.length := hk
  rw [tabA_eq, List.getElem?_toArray, List.getElem?_map, List.getD, List.getElem?_eq_getElem h]; rfl
theorem tab_cell (w : World) (k : Nat) (hk : k < 22) : (w.alloc (.cells tabA 5 (22, 23))).cell? ⟨w.heap.size, k, none⟩ = some (.int .u8 (tabL.getD k 0)) := by
  rw [World.cell?_alloc_mark]; exact tab_at k hk
theorem tab_hv : ∀ k : Fin 22, hv (tabL.getD k.val 0) = if k.val < 16 then (k.val : Int) else (k.val : Int) - 6 := by decide +kernel
theorem tab_no : ∀ n : Fin 256, (List.range 22).all (fun j => decide (tabL.getD j 0 ≠ (n.val : Int))) = true → hv (n.val : Int) = -1 := by decide +kernel
theorem hv_none (c : Int) (h0 : 0 ≤ c) (h1 : c ≤ 255) (h : ∀ j, j < 22 → tabL.getD j 0 ≠ c) : hv c = -1 := by
  have := tab_no ⟨c.toNat, by omega⟩
  have e : ((c.toNat : Nat) : Int) = c := by omega
  simp only [e] at this
  exact this (List.all_eq_true.2 fun j hj => decide_eq_true (h j (List.mem_range.1 hj)))

set_option maxRecDepth 100000 in
set_option maxHeartbeats 1000000 in
theorem digit_r (c : Int) (w : World) (h0 : 0 ≤ c) (h1 : c ≤ 255) : Calls Tryd.prog 40 #[.int .u8 c] w fun e w' => e = .returned (.int .i64 (hv c)) ∧ Below w.heap.size w w' := by
  have HC : Hid (∀ k, k < 22 → (w.alloc (.cells tabA 5 (22, 23))).cell? ⟨w.heap.size, k, none⟩ = some (.int .u8 (tabL.getD k 0))) := fun k hk => tab_cell w k hk
  have HB := Lib.hid ((Below.refl w.heap.size w).alloc (Nat.le_refl _) (.cells tabA 5 (22, 23)))
  unfold tabA at HC HB
  have kc := fun (w : World) (C : Array Value) (n c : Nat) => Lib.run_convert_bytes_const (P := Tryd.prog) w 39 5 C n c Tryd.underlying39 Tryd.underlying5
  go_enter Tryd.func40, Tryd.ntmps40
  go_wp2
  clear kc
  revert HC HB
  generalize w.alloc (.cells #[.int .u8 48, .int .u8 49, .int .u8 50, .int .u8 51, .int .u8 52, .int .u8 53, .int .u8 54, .int .u8 55, .int .u8 56, .int .u8 57, .int .u8 97, .int .u8 98, .int .u8 99, .int .u8 100, .int .u8 101, .int .u8 102, .int .u8 65, .int .u8 66, .int .u8 67, .int .u8 68, .int .u8 69, .int .u8 70] 5 (22, 23)) = W1
  intro HC HB
  go_loop [8] (fun i => ∃ k : Nat, k ≤ 22 ∧ i = .int .i64 k ∧ ∀ j, j < k → tabL.getD j 0 ≠ c) (fun i => 22 - (intOf i).toNat)
  case atStart => exact ⟨0, by omega, rfl, fun j hj => by omega⟩
  case round =>
    obtain ⟨k, hk, rfl, hno⟩ := hrel
    have HN := Lib.hid hno
    clear hno
    by_cases hlt : k < 22
    · have hc := HC.out k hlt
      have HT := Lib.hid (tab_hv ⟨k, hlt⟩)
      simp only [] at HT
      by_cases he : tabL.getD k 0 = c
      · rw [he] at hc HT
        clear he
        by_cases h16 : k < 16
        · have h16' : (k : Int) < 16 := by omega
          rw [if_pos h16] at HT
          go_wp2
          go_ret
          exact ⟨ret_int HT.out.symm, HB.out⟩
        · have h16' : ¬ (k : Int) < 16 := by omega
          have h16d : decide ((k : Int) < 16) = false := by simpa using h16'
          rw [if_neg h16] at HT
          go_wp2
          go_ret
          exact ⟨ret_int HT.out.symm, HB.out⟩
      · have he2 : (tabL.getD k 0 == c) = false := by simpa using he
        have HN2 : Hid (∀ j, j < k + 1 → tabL.getD j 0 ≠ c) := fun j hj => by
          by_cases e : j = k
          · subst e; exact he
          · exact HN.out j (by omega)
        clear he HT
        revert hc he2
        generalize tabL.getD k 0 = x
        intro hc he2
        go_wp2
        go_round
        case rel => exact ⟨k + 1, by omega, by go_num, HN2.out⟩
        case measure => simp [intOf]; omega
    · have HK := Lib.hid (hv_none c h0 h1 (fun j hj => HN.out j (by omega)))
      go_wp2
      go_ret
      exact ⟨ret_int HK.out.symm, HB.out⟩
end Go.Proofs.YtmnodjbmaifglaaDoor.Nu
