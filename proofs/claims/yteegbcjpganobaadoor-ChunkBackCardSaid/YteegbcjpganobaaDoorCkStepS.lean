/- Contracts of the step that takes a size's line, way by way: for every text of at most a thousand bytes. -/
import Derived.Test.YteegbcjpganobaaDoorCkStep
namespace Go.Proofs.YteegbcjpganobaaDoor.Hd
open Go.RowKit Ch
set_option linter.unusedSimpArgs false
set_option linter.unusedVariables false

set_option maxRecDepth 100000 in
set_option maxHeartbeats 400000 in
theorem sl_s (g : Nat) (s : ByteArray) (k : Nat) (a b c sz n : Int) (p v : Value) (st : Int) (k1 : Nat) (t : ByteArray) (l : List UInt8) (z x : Int) (w : World) (h : CkB g s k a b c sz n p v st w) (HLN : Hid (Calls Tryd.prog 24 #[.pointer (some ⟨g, 0, none⟩), .int .i64 400] w fun e w' => e = .returned (.tuple #[.string t, .bool true]) ∧ CkB g s k1 a b c sz n p v st w' ∧ w.grownBy w' (some g))) (h2 : p = .pointer none ∨ p = .pointer (some ⟨g, 7, none⟩)) (h3 : OwB (g + 1) v l w) (h4 : l = [] → v = .slice none 0 0) (hx : (x == 0) = false) (hx2 : (x != 0) = true) (HSZ : Hid (∀ W, Calls Tryd.prog 25 #[.string t, .int .i64 (c - (l.length : Int))] W fun e w' => e = .returned (.tuple #[.int .i64 z, .int .i64 x]) ∧ Below W.heap.size W w')) (hc0 : 0 ≤ c) (hc1 : c ≤ 1048576) (hl : l.length ≤ 10000) :
    Calls Tryd.prog 21 #[.pointer (some ⟨g, 0, none⟩)] w fun e w' => e = .returned .nilFunc ∧ St g s k1 a b c sz n l x w' ∧ w.grownBy w' (some g) := by
  clear h
  go_enter Tryd.func21, Tryd.ntmps21
  go_wp2_with fail
  refine HLN.out.mono ?_
  rintro e w1 ⟨rfl, h1, hg1⟩
  have H1 := Lib.hid h1
  have HG1 := Lib.hid hg1
  clear hg1
  have HS1 : Hid (St g s k1 a b c sz n l st w1) := St.gb2 h1 h2 h3 h4 HG1.out
  have HS1D : Hid (St g s k1 a b c sz n l st w1.drew) := HS1.out
  have H3 := Lib.hid h3
  have H2P := Lib.hid h2
  have H4 := Lib.hid h4
  have c4 := heap_cell h1 4
  have HLE : Hid (∀ W, St g s k1 a b c sz n l st W → Calls Tryd.prog 26 #[.pointer (some ⟨g, 7, none⟩)] W fun e w' => e = .returned (.int .i64 (l.length : Int)) ∧ Below W.heap.size W w') := fun W h => (len_c g s k1 a b c sz n l st W h).mono fun e w' hh => ⟨hh.1, by rw [← hh.2]; exact Below.refl _ _⟩
  clear h1 h2 h3 h4
  have hl' : (l.length : Int) ≤ 10000 := by omega
  have hl0 : (0 : Int) ≤ (l.length : Int) := by omega
  generalize (l.length : Int) = m at HSZ HLE hl' hl0
  have hwr : IntKind.i64.wrap (c - m) = c - m := by unfold IntKind.wrap; simp [IntKind.signed, IntKind.bits]; omega
  go_wp2_with fail
  go_region_held3 (fun V => V.cell? ⟨g, 4, none⟩ = some (.int .i64 c))
    (first | exact f4 | exact e4 | exact c4)
    (first
      | (go_at_call 26; (with_reducible refine (HLE.out w1.drew HS1D.out).mono ?_); rintro e w3 ⟨rfl, hb3⟩; have HK3 : Hid (CkB g s k1 a b c sz n p v st w3) := (hb3.block g H1.out.lt).trans H1.out; have HG3 : Hid (w.grownBy w3 (some g)) := gb_trans HG1.out (gb_trans (gb_drew _ _) (gb_below hb3)); have e4 : w3.cell? ⟨g, 4, none⟩ = some (.int .i64 c) := heap_cell HK3.out 4; clear hb3)
      | (go_at_call 25; (with_reducible refine (HSZ.out _).mono ?_); rintro e w4 ⟨rfl, hb4⟩; have HK4 : Hid (CkB g s k1 a b c sz n p v st w4) := (hb4.block g HK3.out.lt).trans HK3.out; have HG4 : Hid (w.grownBy w4 (some g)) := gb_trans HG3.out (gb_below hb4); have f4 : w4.cell? ⟨g, 4, none⟩ = some (.int .i64 c) := heap_cell HK4.out 4; clear hb4))
  clear e4 f4 c4
  have HR := Lib.hid (refuse_c g s k1 a b c sz n p v st x w4 HK4.out)
  go_wp2_with fail
  refine HR.out.mono ?_
  rintro e w5 ⟨rfl, h5, hg5⟩
  have HF5 : Hid (St g s k1 a b c sz n l x w5 ∧ w.grownBy w5 (some g)) := ⟨St.gb2 h5 H2P.out H3.out H4.out (gb_trans HG4.out hg5), gb_trans HG4.out hg5⟩
  clear h5 hg5
  go_wp2
  go_ret
  exact ⟨rfl, HF5.out⟩
set_option maxRecDepth 100000 in
set_option maxHeartbeats 400000 in
theorem sl_z (g : Nat) (s : ByteArray) (k : Nat) (a b c sz n : Int) (p v : Value) (st : Int) (k1 : Nat) (t : ByteArray) (l : List UInt8) (z x : Int) (w : World) (h : CkB g s k a b c sz n p v st w) (HLN : Hid (Calls Tryd.prog 24 #[.pointer (some ⟨g, 0, none⟩), .int .i64 400] w fun e w' => e = .returned (.tuple #[.string t, .bool true]) ∧ CkB g s k1 a b c sz n p v st w' ∧ w.grownBy w' (some g))) (h2 : p = .pointer none ∨ p = .pointer (some ⟨g, 7, none⟩)) (h3 : OwB (g + 1) v l w) (h4 : l = [] → v = .slice none 0 0)  (HSZ : Hid (∀ W, Calls Tryd.prog 25 #[.string t, .int .i64 (c - (l.length : Int))] W fun e w' => e = .returned (.tuple #[.int .i64 0, .int .i64 0]) ∧ Below W.heap.size W w')) (hc0 : 0 ≤ c) (hc1 : c ≤ 1048576) (hl : l.length ≤ 10000) :
    Calls Tryd.prog 21 #[.pointer (some ⟨g, 0, none⟩)] w fun e w' => e = .returned (fnV 28 g) ∧ St g s k1 a b c sz n l st w' ∧ w.grownBy w' (some g) := by
  clear h
  go_enter Tryd.func21, Tryd.ntmps21
  go_wp2_with fail
  refine HLN.out.mono ?_
  rintro e w1 ⟨rfl, h1, hg1⟩
  have H1 := Lib.hid h1
  have HG1 := Lib.hid hg1
  clear hg1
  have HS1 : Hid (St g s k1 a b c sz n l st w1) := St.gb2 h1 h2 h3 h4 HG1.out
  have HS1D : Hid (St g s k1 a b c sz n l st w1.drew) := HS1.out
  have H3 := Lib.hid h3
  have H2P := Lib.hid h2
  have H4 := Lib.hid h4
  have c4 := heap_cell h1 4
  have HLE : Hid (∀ W, St g s k1 a b c sz n l st W → Calls Tryd.prog 26 #[.pointer (some ⟨g, 7, none⟩)] W fun e w' => e = .returned (.int .i64 (l.length : Int)) ∧ Below W.heap.size W w') := fun W h => (len_c g s k1 a b c sz n l st W h).mono fun e w' hh => ⟨hh.1, by rw [← hh.2]; exact Below.refl _ _⟩
  clear h1 h2 h3 h4
  have hl' : (l.length : Int) ≤ 10000 := by omega
  have hl0 : (0 : Int) ≤ (l.length : Int) := by omega
  generalize (l.length : Int) = m at HSZ HLE hl' hl0
  have hwr : IntKind.i64.wrap (c - m) = c - m := by unfold IntKind.wrap; simp [IntKind.signed, IntKind.bits]; omega
  go_wp2_with fail
  go_region_held3 (fun V => V.cell? ⟨g, 4, none⟩ = some (.int .i64 c))
    (first | exact f4 | exact e4 | exact c4)
    (first
      | (go_at_call 26; (with_reducible refine (HLE.out w1.drew HS1D.out).mono ?_); rintro e w3 ⟨rfl, hb3⟩; have HK3 : Hid (CkB g s k1 a b c sz n p v st w3) := (hb3.block g H1.out.lt).trans H1.out; have HG3 : Hid (w.grownBy w3 (some g)) := gb_trans HG1.out (gb_trans (gb_drew _ _) (gb_below hb3)); have e4 : w3.cell? ⟨g, 4, none⟩ = some (.int .i64 c) := heap_cell HK3.out 4; clear hb3)
      | (go_at_call 25; (with_reducible refine (HSZ.out _).mono ?_); rintro e w4 ⟨rfl, hb4⟩; have HK4 : Hid (CkB g s k1 a b c sz n p v st w4) := (hb4.block g HK3.out.lt).trans HK3.out; have HG4 : Hid (w.grownBy w4 (some g)) := gb_trans HG3.out (gb_below hb4); have f4 : w4.cell? ⟨g, 4, none⟩ = some (.int .i64 c) := heap_cell HK4.out 4; clear hb4))
  clear e4 f4 c4
  go_wp2
  go_ret
  exact ⟨rfl, St.gb2 HK4.out H2P.out H3.out H4.out HG4.out, HG4.out⟩
set_option maxRecDepth 100000 in
set_option maxHeartbeats 400000 in
theorem sl_o (g : Nat) (s : ByteArray) (k : Nat) (a b c sz n : Int) (p v : Value) (st : Int) (k1 : Nat) (t : ByteArray) (l : List UInt8) (z x : Int) (w : World) (h : CkB g s k a b c sz n p v st w) (HLN : Hid (Calls Tryd.prog 24 #[.pointer (some ⟨g, 0, none⟩), .int .i64 400] w fun e w' => e = .returned (.tuple #[.string t, .bool true]) ∧ CkB g s k1 a b c sz n p v st w' ∧ w.grownBy w' (some g))) (h2 : p = .pointer none ∨ p = .pointer (some ⟨g, 7, none⟩)) (h3 : OwB (g + 1) v l w) (h4 : l = [] → v = .slice none 0 0) (hz : (z == 0) = false) (HSZ : Hid (∀ W, Calls Tryd.prog 25 #[.string t, .int .i64 (c - (l.length : Int))] W fun e w' => e = .returned (.tuple #[.int .i64 z, .int .i64 0]) ∧ Below W.heap.size W w')) (hc0 : 0 ≤ c) (hc1 : c ≤ 1048576) (hl : l.length ≤ 10000) :
    Calls Tryd.prog 21 #[.pointer (some ⟨g, 0, none⟩)] w fun e w' => e = .returned (fnV 29 g) ∧ St g s k1 a b c z n l st w' ∧ w.grownBy w' (some g) := by
  clear h
  go_enter Tryd.func21, Tryd.ntmps21
  go_wp2_with fail
  refine HLN.out.mono ?_
  rintro e w1 ⟨rfl, h1, hg1⟩
  have H1 := Lib.hid h1
  have HG1 := Lib.hid hg1
  clear hg1
  have HS1 : Hid (St g s k1 a b c sz n l st w1) := St.gb2 h1 h2 h3 h4 HG1.out
  have HS1D : Hid (St g s k1 a b c sz n l st w1.drew) := HS1.out
  have H3 := Lib.hid h3
  have H2P := Lib.hid h2
  have H4 := Lib.hid h4
  have c4 := heap_cell h1 4
  have HLE : Hid (∀ W, St g s k1 a b c sz n l st W → Calls Tryd.prog 26 #[.pointer (some ⟨g, 7, none⟩)] W fun e w' => e = .returned (.int .i64 (l.length : Int)) ∧ Below W.heap.size W w') := fun W h => (len_c g s k1 a b c sz n l st W h).mono fun e w' hh => ⟨hh.1, by rw [← hh.2]; exact Below.refl _ _⟩
  clear h1 h2 h3 h4
  have hl' : (l.length : Int) ≤ 10000 := by omega
  have hl0 : (0 : Int) ≤ (l.length : Int) := by omega
  generalize (l.length : Int) = m at HSZ HLE hl' hl0
  have hwr : IntKind.i64.wrap (c - m) = c - m := by unfold IntKind.wrap; simp [IntKind.signed, IntKind.bits]; omega
  go_wp2_with fail
  go_region_held3 (fun V => V.cell? ⟨g, 4, none⟩ = some (.int .i64 c))
    (first | exact f4 | exact e4 | exact c4)
    (first
      | (go_at_call 26; (with_reducible refine (HLE.out w1.drew HS1D.out).mono ?_); rintro e w3 ⟨rfl, hb3⟩; have HK3 : Hid (CkB g s k1 a b c sz n p v st w3) := (hb3.block g H1.out.lt).trans H1.out; have HG3 : Hid (w.grownBy w3 (some g)) := gb_trans HG1.out (gb_trans (gb_drew _ _) (gb_below hb3)); have e4 : w3.cell? ⟨g, 4, none⟩ = some (.int .i64 c) := heap_cell HK3.out 4; clear hb3)
      | (go_at_call 25; (with_reducible refine (HSZ.out _).mono ?_); rintro e w4 ⟨rfl, hb4⟩; have HK4 : Hid (CkB g s k1 a b c sz n p v st w4) := (hb4.block g HK3.out.lt).trans HK3.out; have HG4 : Hid (w.grownBy w4 (some g)) := gb_trans HG3.out (gb_below hb4); have f4 : w4.cell? ⟨g, 4, none⟩ = some (.int .i64 c) := heap_cell HK4.out 4; clear hb4))
  clear e4 f4 c4
  have d5 := heap_cell HK4.out 5
  have f5 := frz2 HK4.out 5
  have HS := Lib.hid (set10 HK4.out (.int .i64 z)).2.1
  go_wp2
  go_ret
  exact ⟨rfl, St.gb2 HS.out H2P.out H3.out H4.out (gb_trans HG4.out (gb_set _ _ _ _)), gb_trans HG4.out (gb_set _ _ _ _)⟩
end Go.Proofs.YteegbcjpganobaaDoor.Hd
