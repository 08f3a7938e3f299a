/- Chapter 13's example comes out: awake returns true, where the library's tables lie as the program's text lays them. -/
import Derived.Test.YtolfenachbbjdaaDoorRpD
namespace Go.Proofs.YtolfenachbbjdaaDoor.Rp
open Go.RowKit Ch Hd
set_option linter.unusedSimpArgs false
set_option linter.unusedVariables false

theorem RdF.nil (w : World) : RdF (.slice none 0 0) [] w := ⟨none, 0, rfl, fun h => absurd h (Nat.not_lt_zero _)⟩
def exL : List UInt8 := [72, 84, 84, 80, 47, 49, 46, 49, 32, 52, 48, 52, 32, 78, 111, 116, 32, 70, 111, 117, 110, 100, 13, 10, 67, 111, 110, 116, 101, 110, 116, 45, 76, 101, 110, 103, 116, 104, 58, 32, 48, 13, 10, 13, 10]
theorem itoa_404 : Lib.itoa 404 = [52, 48, 52] := by
  unfold Lib.itoa
  rw [if_neg (by decide), show Int.toNat 404 = 404 from rfl, Nu.dec_big (by decide), Nu.dec_big (by decide), Nu.dec_small (by decide)]
  decide
theorem itoa_0 : Lib.itoa 0 = [48] := by
  unfold Lib.itoa
  rw [if_neg (by decide), show Int.toNat 0 = 0 from rfl, Nu.dec_small (by decide)]
  decide
theorem enc_ex : encL 404 [] ⟨#[]⟩ = exL := by
  unfold encL topL tailL
  rw [itoa_404, show (((ByteArray.mk #[]).size : Nat) : Int) = 0 from rfl, itoa_0]
  decide +kernel
theorem right_ex : rightB 404 [] ⟨#[]⟩ = true := by decide +kernel
set_option maxRecDepth 100000 in
set_option maxHeartbeats 2000000 in
theorem awake_c (w : World) (hT : Nu.Tabs w) : Calls Tryd.prog 12 #[] w fun e w' => e = .returned (.bool true) ∧ Below w.heap.size w w' := by
  have HO := Lib.hid (Of_c 404 ⟨#[]⟩ w)
  have HE : Hid (∀ W, Nu.Tabs W → Calls Tryd.prog 9 #[.agg #[.int .i64 404, .slice none 0 0, .string ⟨#[]⟩]] W fun e w' => e = .returned (.tuple #[.string ⟨#[72, 84, 84, 80, 47, 49, 46, 49, 32, 52, 48, 52, 32, 78, 111, 116, 32, 70, 111, 117, 110, 100, 13, 10, 67, 111, 110, 116, 101, 110, 116, 45, 76, 101, 110, 103, 116, 104, 58, 32, 48, 13, 10, 13, 10]⟩, .int .i64 0]) ∧ Below W.heap.size W w') := fun W h => by
    have H := Encode_c 404 (.slice none 0 0) [] ⟨#[]⟩ W (by omega) (by omega) (RdF.nil W) (fun f hf => by cases hf) h (by show (0 : Nat) ≤ _; omega) (by show (0 : Nat) ≤ _; omega) (by show (0 : Nat) ≤ _; omega)
    rw [right_ex, if_pos rfl, enc_ex] at H
    exact H
  have HT := Lib.hid hT
  clear hT
  go_enter Tryd.func12, Tryd.ntmps12
  go_wp2_with fail
  refine HO.out.mono ?_
  rintro e w1 ⟨rfl, hb1⟩
  rw [show ofBody 404 ⟨#[]⟩ = ⟨#[]⟩ from rfl]
  have HB1 := Lib.hid hb1
  clear hb1
  go_wp2_with fail
  refine (HE.out _ (HT.out.go HB1.out)).mono ?_
  rintro e w2 ⟨rfl, hb2⟩
  have HB2 := Lib.hid (HB1.out.trans (hb2.mono HB1.out.size))
  clear hb2
  go_wp2
  go_ret
  exact ⟨rfl, HB2.out⟩
end Go.Proofs.YtolfenachbbjdaaDoor.Rp
