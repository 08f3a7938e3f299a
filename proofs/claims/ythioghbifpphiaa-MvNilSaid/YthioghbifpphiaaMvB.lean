/- right, keysWith, May at one change of the one key; no other condition. -/
import Derived.Test.YthioghbifpphiaaMvA
namespace Go.Proofs.Ythioghbifpphiaa.Mv
open Go.RowKit Go.Lib Go.Maps
open Go.Proofs.Ythioghbifpphiaa.Cn
set_option linter.unusedSimpArgs false
set_option linter.unusedVariables false

abbrev obC (v : ByteArray) : Obj := .cells #[.string kb, .string v, .bool false] 57
def sd : DataW Unit := .agg []
def setE : Value → Option (DataW Unit × List MemPlace)
  | .agg cs => if cs.size = 0 then some (sd, []) else none
  | _ => none
theorem setE_mk : setE (.agg #[]) = some (sd, []) := rfl
def dS : Nat → DataW Unit
  | 0 => .map []
  | _ => (DataW.map []).put kl sd
theorem set_put {w : World} {b : Nat} (h : w.ownsMap Try.prog 9 setE b 0 (dS 0)) : ∃ w', (Instr.mapUpdate 105 (.map (some b)) (.string kb) (.agg #[])).run Try.prog w = .ok () w' ∧ w'.ownsMap Try.prog 9 setE b 1 (dS 1) ∧ w.grownBy w' (some b) :=
  World.ownsMap.update h law Try.underlying105 (by decide) keyA setE_mk
theorem own_keep {w w' : World} {b n : Nat} {R : Value → Option (DataW Unit × List MemPlace)} {D : DataW Unit} (h : w.ownsMap Try.prog 9 R b n D) (hb : w'.heap[b]? = w.heap[b]?) : w'.ownsMap Try.prog 9 R b n D := by
  obtain ⟨es, clock, h1, h2⟩ := h
  exact ⟨es, clock, hb.trans h1, h2⟩
theorem mk_map (w : World) : (Instr.makeMap 105 (some (.int .i64 1))).run Try.prog w = .ok (.map (some w.heap.size)) (w.alloc (.map #[] 0)) := by simp [Instr.makeMap, run_underlying Try.underlying105, asInt, asIntOf, Result.andThen]
theorem key_ne : (kb.toList == (⟨#[]⟩ : ByteArray).toList) = false := by rw [Lib.toList_data, Lib.toList_data]; decide
set_option maxRecDepth 100000 in
set_option maxHeartbeats 4000000 in
theorem right_1 (c a : Nat) (v : ByteArray) (w : World) (h : w.heap[a]? = some (obC v)) : Calls Try.prog 35 #[.pointer (some ⟨c, 0, none⟩), .slice (some ⟨a, 0, none⟩) 1 1] w fun e w' => e = .returned (.bool true) ∧ Below w.heap.size w w' := by
  obtain ⟨W0, hW0⟩ : ∃ W0, W0 = w.alloc (.map #[] 0) := ⟨_, rfl⟩
  have HB0 : Hid (Below w.heap.size w W0) := by rw [hW0]; exact Lib.hid ((Below.refl _ _).alloc (Nat.le_refl _) _)
  have HM0 : Hid (W0.ownsMap Try.prog 9 setE w.heap.size 0 (dS 0)) := by rw [hW0]; exact Lib.hid (World.ownsMap_made w _ _ _)
  have hal : a < w.heap.size := (Array.getElem?_eq_some_iff.1 h).1
  have HA := Lib.hid h
  have HW0 := Lib.hid hW0
  have hmk := mk_map w
  clear hW0 h
  go_enter Try.func35, Try.ntmps35
  go_upto_region 2 with (fail)
  rw [← HW0.out]
  go_wp2
  go_loopw [13] (fun iv wr => ∃ j : Nat, j ≤ 1 ∧ iv = .int .i64 (j : Int) ∧ Hid (wr.ownsMap Try.prog 9 setE w.heap.size j (dS j)) ∧ Hid (Below w.heap.size w wr)) (fun iv _ => 1 - (intOf iv).toNat)
  case atStart => exact ⟨0, by omega, rfl, HM0, HB0⟩
  case round =>
    obtain ⟨j, hj, rfl, HM, HB⟩ := hrel
    have hwz : w.heap.size < wr.heap.size := HM.out.lt
    by_cases hj0 : j = 0
    · subst hj0
      have HAr := Lib.hid ((HB.out.block a hal).trans HA.out)
      obtain ⟨a0, a1, a2⟩ := Cn.cells3 HAr.out
      obtain ⟨W1, hW1, hk1, hb1⟩ := Cn.new3 wr (.string kb) (.string v) (.bool false) 57
      have HW1 := Lib.hid hW1
      obtain ⟨x0, x1, x2⟩ := Cn.cells3 hk1
      have hm1 := own_keep HM.out (hb1.block _ hwz)
      obtain ⟨W2, hu, hm2, hg2⟩ := set_put hm1
      have HM2 := Lib.hid hm2
      have HB2 : Hid (Below w.heap.size w W2) := by
        have h1 := HB.out.trans (hb1.mono HB.out.size)
        exact ⟨hg2.os.trans h1.os, hg2.tape.trans h1.tape, hg2.output.trans h1.output, Nat.le_trans h1.size hg2.size, fun k hk => (hg2.block k (by have := h1.size; omega) (fun e => by injection e with e; omega)).trans (h1.block k hk)⟩
      have kn := key_ne
      clear hW1 hk1 hb1 hm1 hm2 hg2
      go_upto_region 5 with (fail)
      rw [← HW1.out]
      go_wp2
      go_roundw
      case rel => exact ⟨1, by omega, by go_num, HM2, HB2⟩
      case measure => simp [intOf]
    · obtain rfl : j = 1 := by omega
      have hlen := fun ty => World.ownsMap.len HM.out Try.underlying105 ty
      rw [show Maps.size (dS 1) = 1 from rfl] at hlen
      go_wp2
      go_ret
      exact ⟨rfl, HB.out⟩
end Go.Proofs.Ythioghbifpphiaa.Mv
