/- The contract of the statements' awake over package wire: chapter 12's example. -/
import Derived.Test.YtkblggpnghdnmaaGreatDoorWrFirst
import Derived.Test.YtkblggpnghdnmaaGreatDoorWrBase
namespace Go.Proofs.YtkblggpnghdnmaaGreatDoor.Hd
open Go.RowKit Ch
set_option linter.unusedSimpArgs false
set_option linter.unusedVariables false

theorem clW : clmp 0 16 8192 = 16 ∧ clmp 0 1 100 = 1 := ⟨rfl, rfl⟩
/-- Next at a beginning of the example -/
theorem next_b (g : Nat) (k : Nat) (hk : k < 18) (w : World) (hp : PB g 0 0 0 (mkS (exW.take k)) 0 w) (hM : Mx w) (hE : ErT w) :
    Calls Tryz.prog 13 #[.pointer (some ⟨g, 0, none⟩)] w fun e w' => e = .returned (.tuple #[RQ0, .bool false]) ∧ Below w.heap.size w w' := by
  have hm := more_of (exW_more ⟨k, hk⟩)
  simp only at hm
  refine next_st g 0 0 0 _ w hp (Lib.hid fun W h1 h2 => ?_) hM hE
  refine first_st _ 0 0 0 1 W (by decide) (by decide) (Lib.hid fun V h3 h4 => ?_) h1 h2
  have := Parse_g (mkS (exW.take k)) 0 0 0 V h3 h4 (by rw [size_mkS, List.length_take]; omega)
  rw [data_mkS, clW.1, clW.2, hm] at this
  exact this
theorem feed_b (g : Nat) (k : Nat) (hk : k < 18) (x : ByteArray) (hx : x = mkS ((exW.drop k).take 1)) (w : World) (hp : PB g 0 0 0 (mkS (exW.take k)) 0 w) :
    Calls Tryz.prog 10 #[.pointer (some ⟨g, 0, none⟩), .string x] w fun e w' => e = .returned (.int .i64 1) ∧ PB g 0 0 0 (mkS (exW.take (k + 1))) 0 w' ∧ w.grownBy w' (some g) := by
  have hl : exW.length = 18 := rfl
  have hxs : x.size = 1 := by rw [hx, size_mkS, List.length_take, List.length_drop]; omega
  have hks : (mkS (exW.take k)).size = k := by rw [size_mkS, List.length_take]; omega
  have h := feed_c g 0 0 0 0 (mkS (exW.take k)) x 1 w hp (by decide) (by decide) (by omega) (by omega) (by rw [hxs, hks]; omega) (Lib.hid fun W => Right_c 0 0 0 W)
  have e : mkS (exW.take k) ++ x.extract 0 1 = mkS (exW.take (k + 1)) := by
    have h1 : x.extract 0 1 = mkS (x.data.toList.take 1) := ext0 x 1
    rw [h1, hx, data_mkS, List.take_take]
    refine mkS_of ?_
    have h2 : exW.take (k + 1) = exW.take k ++ (exW.drop k).take 1 := by rw [List.take_add]
    rw [h2]
    simp [data_mkS]
  rw [e] at h
  exact h
end Go.Proofs.YtkblggpnghdnmaaGreatDoor.Hd
