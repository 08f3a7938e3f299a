/- The law's walks; no condition. -/
import Derived.Test.YtolfenachbbjdaaDoorRpO
namespace Go.Proofs.YtolfenachbbjdaaDoor.Rp
open Go.RowKit Ch Hd
set_option linter.unusedSimpArgs false
set_option linter.unusedVariables false

def RK (w : World) (b : Nat) (n : Int) (v : Value) (bd : ByteArray) (fs : List FB) (V : World) : Prop := Below w.heap.size w V ∧ V.heap[b]? = some (.cells #[.int .i64 n, v, .string bd] 31 (0, 0)) ∧ OwF 61 (w.heap.size + 1) v fs V
theorem RK.go {w V V' : World} {b : Nat} {n : Int} {v : Value} {bd : ByteArray} {fs : List FB} (h : RK w b n v bd fs V) (hb : Below V.heap.size V V') : RK w b n v bd fs V' := ⟨h.1.trans (hb.mono h.1.size), (hb.block _ (Array.getElem?_eq_some_iff.1 h.2.1).1).trans h.2.1, h.2.2.go hb⟩
theorem RK.drew {w V : World} {b : Nat} {n : Int} {v : Value} {bd : ByteArray} {fs : List FB} (h : RK w b n v bd fs V) : RK w b n v bd fs V.drew := h.go (by refine ⟨rfl, rfl, rfl, Nat.le_refl _, fun _ _ => rfl⟩)
theorem RK.bel {w V : World} {b : Nat} {n : Int} {v : Value} {bd : ByteArray} {fs : List FB} (h : RK w b n v bd fs V) : Below w.heap.size w V := h.1
theorem RK.rd {w V : World} {b : Nat} {n : Int} {v : Value} {bd : ByteArray} {fs : List FB} (h : RK w b n v bd fs V) : RdF v fs V := h.2.2.rd
theorem RK.cells {w V : World} {b : Nat} {n : Int} {v : Value} {bd : ByteArray} {fs : List FB} (h : RK w b n v bd fs V) : V.cell? ⟨b, 0, none⟩ = some (.int .i64 n) ∧ V.cell? ⟨b, 1, none⟩ = some v ∧ V.cell? ⟨b, 2, none⟩ = some (.string bd) := cells3 h.2.1
set_option maxRecDepth 100000 in
set_option maxHeartbeats 8000000 in
theorem pmS (s : ByteArray) (hsm : s.size ≤ 400) (w : World) (HT : Hid (Nu.Tabs w))
    (HP : Hid (Calls Tryd.prog 14 #[.string s] w fun e w' => e = .returned (.tuple #[.agg #[.int .i64 0, .slice none 0 0, .string ⟨#[]⟩], .int .i64 0, .int .i64 11]) ∧ Below w.heap.size w w'))
    (HEM : Hid (∀ W, Calls Tryd.prog 17 #[.string s] W fun e w' => e = .returned (.int .i64 (-1)) ∧ W = w')) :
    Calls Tryd.prog 5 #[.string s] w fun e w' => e = .returned (.bool true) ∧ Below w.heap.size w w' := by
  have h4 : (s.size : Int) ≤ 400 := by omega
  go_enter Tryd.func5, Tryd.ntmps5
  go_wp2_with fail
  refine HP.out.mono ?_
  rintro e w1 ⟨rfl, hb1⟩
  have HB1 : Hid (Below w.heap.size w (w1.alloc (.cells #[.int .i64 0, .slice none 0 0, .string ⟨#[]⟩] 31))) := hb1.alloc hb1.size _
  clear hb1
  go_wp2_with fail
  refine (HEM.out _).mono ?_
  rintro e w2 ⟨rfl, hw⟩
  rw [← hw]; clear hw
  go_wp2_with fail
  refine (awake_c _ (HT.out.go HB1.out)).mono ?_
  rintro e w9 ⟨rfl, hb9⟩
  have HB9 : Hid (Below w.heap.size w w9) := HB1.out.trans (hb9.mono HB1.out.size)
  clear hb9
  go_wp2
  go_ret
  exact ⟨rfl, HB9.out⟩
set_option maxRecDepth 100000 in
set_option maxHeartbeats 8000000 in
theorem pfS3 (s : ByteArray) (hsm : s.size ≤ 400) (em : Int) (hem : decide (em < 0) = false) (w : World) (HT : Hid (Nu.Tabs w))
    (HP : Hid (Calls Tryd.prog 14 #[.string s] w fun e w' => e = .returned (.tuple #[.agg #[.int .i64 0, .slice none 0 0, .string ⟨#[]⟩], .int .i64 0, .int .i64 3]) ∧ Below w.heap.size w w'))
    (HEM : Hid (∀ W, Calls Tryd.prog 17 #[.string s] W fun e w' => e = .returned (.int .i64 em) ∧ W = w')) :
    Calls Tryd.prog 5 #[.string s] w fun e w' => e = .returned (.bool true) ∧ Below w.heap.size w w' := by
  have h4 : (s.size : Int) ≤ 400 := by omega
  go_enter Tryd.func5, Tryd.ntmps5
  go_wp2_with fail
  refine HP.out.mono ?_
  rintro e w1 ⟨rfl, hb1⟩
  have HB1 : Hid (Below w.heap.size w (w1.alloc (.cells #[.int .i64 0, .slice none 0 0, .string ⟨#[]⟩] 31))) := hb1.alloc hb1.size _
  clear hb1
  go_wp2_with fail
  refine (HEM.out _).mono ?_
  rintro e w2 ⟨rfl, hw⟩
  rw [← hw]; clear hw
  go_wp2_with fail
  refine (Plain_c 0 (.slice none 0 0) [] ⟨#[]⟩ _ (RdF.nil _) (Nat.zero_le _)).mono ?_
  rintro e w3 ⟨aq, cq, rfl, _, hb3⟩
  have HB3 : Hid (Below w.heap.size w w3) := HB1.out.trans (hb3.mono HB1.out.size)
  clear hb3
  go_wp2_with fail
  refine (SameZ_c aq cq _).mono ?_
  rintro e w4 ⟨rfl, hb4⟩
  have HB4 : Hid (Below w.heap.size w w4) := HB3.out.trans (hb4.mono HB3.out.size)
  clear hb4
  go_wp2_with fail
  refine (awake_c _ (HT.out.go HB4.out)).mono ?_
  rintro e w9 ⟨rfl, hb9⟩
  have HB9 : Hid (Below w.heap.size w w9) := HB4.out.trans (hb9.mono HB4.out.size)
  clear hb9
  go_wp2
  go_ret
  exact ⟨rfl, HB9.out⟩
set_option maxRecDepth 100000 in
set_option maxHeartbeats 8000000 in
theorem pfS11 (s : ByteArray) (hsm : s.size ≤ 400) (em : Int) (hem : decide (em < 0) = false) (w : World) (HT : Hid (Nu.Tabs w))
    (HP : Hid (Calls Tryd.prog 14 #[.string s] w fun e w' => e = .returned (.tuple #[.agg #[.int .i64 0, .slice none 0 0, .string ⟨#[]⟩], .int .i64 0, .int .i64 11]) ∧ Below w.heap.size w w'))
    (HEM : Hid (∀ W, Calls Tryd.prog 17 #[.string s] W fun e w' => e = .returned (.int .i64 em) ∧ W = w')) :
    Calls Tryd.prog 5 #[.string s] w fun e w' => e = .returned (.bool true) ∧ Below w.heap.size w w' := by
  have h4 : (s.size : Int) ≤ 400 := by omega
  go_enter Tryd.func5, Tryd.ntmps5
  go_wp2_with fail
  refine HP.out.mono ?_
  rintro e w1 ⟨rfl, hb1⟩
  have HB1 : Hid (Below w.heap.size w (w1.alloc (.cells #[.int .i64 0, .slice none 0 0, .string ⟨#[]⟩] 31))) := hb1.alloc hb1.size _
  clear hb1
  go_wp2_with fail
  refine (HEM.out _).mono ?_
  rintro e w2 ⟨rfl, hw⟩
  rw [← hw]; clear hw
  go_wp2_with fail
  refine (Plain_c 0 (.slice none 0 0) [] ⟨#[]⟩ _ (RdF.nil _) (Nat.zero_le _)).mono ?_
  rintro e w3 ⟨aq, cq, rfl, _, hb3⟩
  have HB3 : Hid (Below w.heap.size w w3) := HB1.out.trans (hb3.mono HB1.out.size)
  clear hb3
  go_wp2_with fail
  refine (SameZ_c aq cq _).mono ?_
  rintro e w4 ⟨rfl, hb4⟩
  have HB4 : Hid (Below w.heap.size w w4) := HB3.out.trans (hb4.mono HB3.out.size)
  clear hb4
  go_wp2_with fail
  refine (awake_c _ (HT.out.go HB4.out)).mono ?_
  rintro e w9 ⟨rfl, hb9⟩
  have HB9 : Hid (Below w.heap.size w w9) := HB4.out.trans (hb9.mono HB4.out.size)
  clear hb9
  go_wp2
  go_ret
  exact ⟨rfl, HB9.out⟩
set_option maxRecDepth 100000 in
set_option maxHeartbeats 8000000 in
theorem pyS (s : ByteArray) (hsm : s.size ≤ 400) (n : Int) (fs : List FB) (bd E : ByteArray) (ln : Nat) (hln : ln ≤ s.size) (hssz : s.size ≤ 400) (w : World) (HT : Hid (Nu.Tabs w))
    (heq : (E.toList == (s.extract 0 ln).toList) = true) (hfl : fs.length ≤ 2000)
    (HP : Hid (Calls Tryd.prog 14 #[.string s] w fun e w' => ∃ aq cq, e = .returned (.tuple #[.agg #[.int .i64 n, .slice aq fs.length cq, .string bd], .int .i64 (ln : Int), .int .i64 0]) ∧ OwF 61 (w.heap.size + 1) (.slice aq fs.length cq) fs w' ∧ Below w.heap.size w w'))
    (HPL : Hid (∀ v W, RdF v fs W → Calls Tryd.prog 16 #[.agg #[.int .i64 n, v, .string bd]] W fun e w' => ∃ au cu, e = .returned (.agg #[.int .i64 n, .slice au fs.length cu, .string bd]) ∧ OwF 64 W.heap.size (.slice au fs.length cu) fs w' ∧ Below W.heap.size W w'))
    (HRI : Hid (∀ v W, RdF v fs W → Calls Tryd.prog 11 #[.agg #[.int .i64 n, v, .string bd]] W fun e w' => e = .returned (.bool true) ∧ Below W.heap.size W w'))
    (HER : Hid (∀ v W, RdF v fs W → Calls Tryd.prog 13 #[.agg #[.int .i64 n, v, .string bd]] W fun e w' => e = .returned (.string E) ∧ Below W.heap.size W w')) :
    Calls Tryd.prog 5 #[.string s] w fun e w' => e = .returned (.bool true) ∧ Below w.heap.size w w' := by
  have h4 : (s.size : Int) ≤ 400 := by omega
  have hl0 : (0 : Int) ≤ (ln : Int) := by omega
  have hl1 : (ln : Int) ≤ (s.size : Int) := by omega
  go_enter Tryd.func5, Tryd.ntmps5
  go_wp2_with fail
  refine HP.out.mono ?_
  rintro e w1 ⟨aq, cq, rfl, ho1, hb1⟩
  obtain ⟨W0, hW0, HK⟩ : ∃ W0, W0 = w1.alloc (.cells #[.int .i64 n, .slice aq fs.length cq, .string bd] 31) ∧ Hid (RK w w1.heap.size n (.slice aq fs.length cq) bd fs W0) :=
    ⟨_, rfl, hb1.alloc hb1.size _, heap_alloc_new w1 _, ho1.go ((Below.refl _ _).alloc (Nat.le_refl _) _)⟩
  have HWE := Lib.hid hW0
  have HKD : Hid (RK w w1.heap.size n (.slice aq fs.length cq) bd fs W0.drew) := HK.out.drew
  have HC0 := Lib.hid HKD.out.cells
  clear hb1 hW0 ho1 HK
  go_wp2_with fail
  rw [← HWE.out]
  obtain ⟨c0, c1, c2⟩ := HC0.out
  clear HWE
  go_region_held3 (fun V => V.cell? ⟨w1.heap.size, 0, none⟩ = some (.int .i64 n) ∧ V.cell? ⟨w1.heap.size, 1, none⟩ = some (.slice aq fs.length cq) ∧ V.cell? ⟨w1.heap.size, 2, none⟩ = some (.string bd))
    (first | (with_reducible exact HC0.out) | (with_reducible exact HC3.out) | (with_reducible exact HC4.out) | (with_reducible exact HC5.out) | (with_reducible exact HC6.out) | (with_reducible exact HC7.out))
    (first
      | (go_at_call 16; (with_reducible refine (HPL.out _ W0.drew HKD.out.rd).mono ?_); rintro e w3 ⟨au, cu, rfl, ho3, hb3⟩; have HK3 := Lib.hid (HKD.out.go hb3); have HR3 := Lib.hid (OwF.rd ho3); have HC3 := Lib.hid HK3.out.cells; clear ho3 hb3)
      | (go_at_call 11; (with_reducible refine (HRI.out _ w3 HR3.out).mono ?_); rintro e w4 ⟨rfl, hb4⟩; have HK4 := Lib.hid (HK3.out.go hb4); have HC4 := Lib.hid HK4.out.cells; obtain ⟨f0, f1, f2⟩ := HC4.out; clear hb4)
      | (go_at_call 16; (with_reducible refine (HPL.out _ w4 HK4.out.rd).mono ?_); rintro e w5 ⟨av, cv, rfl, ho5, hb5⟩; have HK5 := Lib.hid (HK4.out.go hb5); have HR5 := Lib.hid (OwF.rd ho5); have HC5 := Lib.hid HK5.out.cells; clear ho5 hb5)
      | (go_at_call 13; (with_reducible refine (HER.out _ w5 HR5.out).mono ?_); rintro e w6 ⟨rfl, hb6⟩; have HK6 := Lib.hid (HK5.out.go hb6); have HC6 := Lib.hid HK6.out.cells; clear hb6)
      | (go_at_call 12; (with_reducible refine (awake_c w6 (HT.out.go HK6.out.bel)).mono ?_); rintro e w7 ⟨rfl, hb7⟩; have HK7 := Lib.hid (HK6.out.go hb7); have HC7 := Lib.hid HK7.out.cells; clear hb7))
  all_goals
    go_wp2
    go_ret
    exact ⟨rfl, HK7.out.bel⟩
set_option maxRecDepth 100000 in
set_option maxHeartbeats 8000000 in
theorem pmB (x0 s : ByteArray) (hx : x0.size ≤ 9223372036854775807) (hbg : 400 < x0.size) (hxs : s = x0.extract 0 400) (w : World) (HT : Hid (Nu.Tabs w))
    (HP : Hid (Calls Tryd.prog 14 #[.string s] w fun e w' => e = .returned (.tuple #[.agg #[.int .i64 0, .slice none 0 0, .string ⟨#[]⟩], .int .i64 0, .int .i64 11]) ∧ Below w.heap.size w w'))
    (HEM : Hid (∀ W, Calls Tryd.prog 17 #[.string s] W fun e w' => e = .returned (.int .i64 (-1)) ∧ W = w')) :
    Calls Tryd.prog 5 #[.string x0] w fun e w' => e = .returned (.bool true) ∧ Below w.heap.size w w' := by
  have h4 : (400 : Int) < (x0.size : Int) := by omega
  have HXS := Lib.hid hxs
  clear hxs
  go_enter Tryd.func5, Tryd.ntmps5
  go_wp2_with fail
  rw [← HXS.out]
  refine HP.out.mono ?_
  rintro e w1 ⟨rfl, hb1⟩
  have HB1 : Hid (Below w.heap.size w (w1.alloc (.cells #[.int .i64 0, .slice none 0 0, .string ⟨#[]⟩] 31))) := hb1.alloc hb1.size _
  clear hb1
  go_wp2_with fail
  refine (HEM.out _).mono ?_
  rintro e w2 ⟨rfl, hw⟩
  rw [← hw]; clear hw
  go_wp2_with fail
  refine (awake_c _ (HT.out.go HB1.out)).mono ?_
  rintro e w9 ⟨rfl, hb9⟩
  have HB9 : Hid (Below w.heap.size w w9) := HB1.out.trans (hb9.mono HB1.out.size)
  clear hb9
  go_wp2
  go_ret
  exact ⟨rfl, HB9.out⟩
set_option maxRecDepth 100000 in
set_option maxHeartbeats 8000000 in
theorem pfB3 (x0 s : ByteArray) (hx : x0.size ≤ 9223372036854775807) (hbg : 400 < x0.size) (hxs : s = x0.extract 0 400) (em : Int) (hem : decide (em < 0) = false) (w : World) (HT : Hid (Nu.Tabs w))
    (HP : Hid (Calls Tryd.prog 14 #[.string s] w fun e w' => e = .returned (.tuple #[.agg #[.int .i64 0, .slice none 0 0, .string ⟨#[]⟩], .int .i64 0, .int .i64 3]) ∧ Below w.heap.size w w'))
    (HEM : Hid (∀ W, Calls Tryd.prog 17 #[.string s] W fun e w' => e = .returned (.int .i64 em) ∧ W = w')) :
    Calls Tryd.prog 5 #[.string x0] w fun e w' => e = .returned (.bool true) ∧ Below w.heap.size w w' := by
  have h4 : (400 : Int) < (x0.size : Int) := by omega
  have HXS := Lib.hid hxs
  clear hxs
  go_enter Tryd.func5, Tryd.ntmps5
  go_wp2_with fail
  rw [← HXS.out]
  refine HP.out.mono ?_
  rintro e w1 ⟨rfl, hb1⟩
  have HB1 : Hid (Below w.heap.size w (w1.alloc (.cells #[.int .i64 0, .slice none 0 0, .string ⟨#[]⟩] 31))) := hb1.alloc hb1.size _
  clear hb1
  go_wp2_with fail
  refine (HEM.out _).mono ?_
  rintro e w2 ⟨rfl, hw⟩
  rw [← hw]; clear hw
  go_wp2_with fail
  refine (Plain_c 0 (.slice none 0 0) [] ⟨#[]⟩ _ (RdF.nil _) (Nat.zero_le _)).mono ?_
  rintro e w3 ⟨aq, cq, rfl, _, hb3⟩
  have HB3 : Hid (Below w.heap.size w w3) := HB1.out.trans (hb3.mono HB1.out.size)
  clear hb3
  go_wp2_with fail
  refine (SameZ_c aq cq _).mono ?_
  rintro e w4 ⟨rfl, hb4⟩
  have HB4 : Hid (Below w.heap.size w w4) := HB3.out.trans (hb4.mono HB3.out.size)
  clear hb4
  go_wp2_with fail
  refine (awake_c _ (HT.out.go HB4.out)).mono ?_
  rintro e w9 ⟨rfl, hb9⟩
  have HB9 : Hid (Below w.heap.size w w9) := HB4.out.trans (hb9.mono HB4.out.size)
  clear hb9
  go_wp2
  go_ret
  exact ⟨rfl, HB9.out⟩
set_option maxRecDepth 100000 in
set_option maxHeartbeats 8000000 in
theorem pfB11 (x0 s : ByteArray) (hx : x0.size ≤ 9223372036854775807) (hbg : 400 < x0.size) (hxs : s = x0.extract 0 400) (em : Int) (hem : decide (em < 0) = false) (w : World) (HT : Hid (Nu.Tabs w))
    (HP : Hid (Calls Tryd.prog 14 #[.string s] w fun e w' => e = .returned (.tuple #[.agg #[.int .i64 0, .slice none 0 0, .string ⟨#[]⟩], .int .i64 0, .int .i64 11]) ∧ Below w.heap.size w w'))
    (HEM : Hid (∀ W, Calls Tryd.prog 17 #[.string s] W fun e w' => e = .returned (.int .i64 em) ∧ W = w')) :
    Calls Tryd.prog 5 #[.string x0] w fun e w' => e = .returned (.bool true) ∧ Below w.heap.size w w' := by
  have h4 : (400 : Int) < (x0.size : Int) := by omega
  have HXS := Lib.hid hxs
  clear hxs
  go_enter Tryd.func5, Tryd.ntmps5
  go_wp2_with fail
  rw [← HXS.out]
  refine HP.out.mono ?_
  rintro e w1 ⟨rfl, hb1⟩
  have HB1 : Hid (Below w.heap.size w (w1.alloc (.cells #[.int .i64 0, .slice none 0 0, .string ⟨#[]⟩] 31))) := hb1.alloc hb1.size _
  clear hb1
  go_wp2_with fail
  refine (HEM.out _).mono ?_
  rintro e w2 ⟨rfl, hw⟩
  rw [← hw]; clear hw
  go_wp2_with fail
  refine (Plain_c 0 (.slice none 0 0) [] ⟨#[]⟩ _ (RdF.nil _) (Nat.zero_le _)).mono ?_
  rintro e w3 ⟨aq, cq, rfl, _, hb3⟩
  have HB3 : Hid (Below w.heap.size w w3) := HB1.out.trans (hb3.mono HB1.out.size)
  clear hb3
  go_wp2_with fail
  refine (SameZ_c aq cq _).mono ?_
  rintro e w4 ⟨rfl, hb4⟩
  have HB4 : Hid (Below w.heap.size w w4) := HB3.out.trans (hb4.mono HB3.out.size)
  clear hb4
  go_wp2_with fail
  refine (awake_c _ (HT.out.go HB4.out)).mono ?_
  rintro e w9 ⟨rfl, hb9⟩
  have HB9 : Hid (Below w.heap.size w w9) := HB4.out.trans (hb9.mono HB4.out.size)
  clear hb9
  go_wp2
  go_ret
  exact ⟨rfl, HB9.out⟩
set_option maxRecDepth 100000 in
set_option maxHeartbeats 8000000 in
theorem pyB (x0 s : ByteArray) (hx : x0.size ≤ 9223372036854775807) (hbg : 400 < x0.size) (hxs : s = x0.extract 0 400) (n : Int) (fs : List FB) (bd E : ByteArray) (ln : Nat) (hln : ln ≤ s.size) (hssz : s.size ≤ 400) (w : World) (HT : Hid (Nu.Tabs w))
    (heq : (E.toList == (s.extract 0 ln).toList) = true) (hfl : fs.length ≤ 2000)
    (HP : Hid (Calls Tryd.prog 14 #[.string s] w fun e w' => ∃ aq cq, e = .returned (.tuple #[.agg #[.int .i64 n, .slice aq fs.length cq, .string bd], .int .i64 (ln : Int), .int .i64 0]) ∧ OwF 61 (w.heap.size + 1) (.slice aq fs.length cq) fs w' ∧ Below w.heap.size w w'))
    (HPL : Hid (∀ v W, RdF v fs W → Calls Tryd.prog 16 #[.agg #[.int .i64 n, v, .string bd]] W fun e w' => ∃ au cu, e = .returned (.agg #[.int .i64 n, .slice au fs.length cu, .string bd]) ∧ OwF 64 W.heap.size (.slice au fs.length cu) fs w' ∧ Below W.heap.size W w'))
    (HRI : Hid (∀ v W, RdF v fs W → Calls Tryd.prog 11 #[.agg #[.int .i64 n, v, .string bd]] W fun e w' => e = .returned (.bool true) ∧ Below W.heap.size W w'))
    (HER : Hid (∀ v W, RdF v fs W → Calls Tryd.prog 13 #[.agg #[.int .i64 n, v, .string bd]] W fun e w' => e = .returned (.string E) ∧ Below W.heap.size W w')) :
    Calls Tryd.prog 5 #[.string x0] w fun e w' => e = .returned (.bool true) ∧ Below w.heap.size w w' := by
  have h4 : (400 : Int) < (x0.size : Int) := by omega
  have HXS := Lib.hid hxs
  clear hxs
  have hl0 : (0 : Int) ≤ (ln : Int) := by omega
  have hl1 : (ln : Int) ≤ (s.size : Int) := by omega
  go_enter Tryd.func5, Tryd.ntmps5
  go_wp2_with fail
  rw [← HXS.out]
  refine HP.out.mono ?_
  rintro e w1 ⟨aq, cq, rfl, ho1, hb1⟩
  obtain ⟨W0, hW0, HK⟩ : ∃ W0, W0 = w1.alloc (.cells #[.int .i64 n, .slice aq fs.length cq, .string bd] 31) ∧ Hid (RK w w1.heap.size n (.slice aq fs.length cq) bd fs W0) :=
    ⟨_, rfl, hb1.alloc hb1.size _, heap_alloc_new w1 _, ho1.go ((Below.refl _ _).alloc (Nat.le_refl _) _)⟩
  have HWE := Lib.hid hW0
  have HKD : Hid (RK w w1.heap.size n (.slice aq fs.length cq) bd fs W0.drew) := HK.out.drew
  have HC0 := Lib.hid HKD.out.cells
  clear hb1 hW0 ho1 HK
  go_wp2_with fail
  rw [← HWE.out]
  obtain ⟨c0, c1, c2⟩ := HC0.out
  clear HWE
  go_region_held3 (fun V => V.cell? ⟨w1.heap.size, 0, none⟩ = some (.int .i64 n) ∧ V.cell? ⟨w1.heap.size, 1, none⟩ = some (.slice aq fs.length cq) ∧ V.cell? ⟨w1.heap.size, 2, none⟩ = some (.string bd))
    (first | (with_reducible exact HC0.out) | (with_reducible exact HC3.out) | (with_reducible exact HC4.out) | (with_reducible exact HC5.out) | (with_reducible exact HC6.out) | (with_reducible exact HC7.out))
    (first
      | (go_at_call 16; (with_reducible refine (HPL.out _ W0.drew HKD.out.rd).mono ?_); rintro e w3 ⟨au, cu, rfl, ho3, hb3⟩; have HK3 := Lib.hid (HKD.out.go hb3); have HR3 := Lib.hid (OwF.rd ho3); have HC3 := Lib.hid HK3.out.cells; clear ho3 hb3)
      | (go_at_call 11; (with_reducible refine (HRI.out _ w3 HR3.out).mono ?_); rintro e w4 ⟨rfl, hb4⟩; have HK4 := Lib.hid (HK3.out.go hb4); have HC4 := Lib.hid HK4.out.cells; obtain ⟨f0, f1, f2⟩ := HC4.out; clear hb4)
      | (go_at_call 16; (with_reducible refine (HPL.out _ w4 HK4.out.rd).mono ?_); rintro e w5 ⟨av, cv, rfl, ho5, hb5⟩; have HK5 := Lib.hid (HK4.out.go hb5); have HR5 := Lib.hid (OwF.rd ho5); have HC5 := Lib.hid HK5.out.cells; clear ho5 hb5)
      | (go_at_call 13; (with_reducible refine (HER.out _ w5 HR5.out).mono ?_); rintro e w6 ⟨rfl, hb6⟩; have HK6 := Lib.hid (HK5.out.go hb6); have HC6 := Lib.hid HK6.out.cells; clear hb6)
      | (go_at_call 12; (with_reducible refine (awake_c w6 (HT.out.go HK6.out.bel)).mono ?_); rintro e w7 ⟨rfl, hb7⟩; have HK7 := Lib.hid (HK6.out.go hb7); have HC7 := Lib.hid HK7.out.cells; clear hb7))
  all_goals
    go_wp2
    go_ret
    exact ⟨rfl, HK7.out.bel⟩
theorem pre_ext {s : ByteArray} {l : List UInt8} (h : Lib.hasPrefix s.data.toList l = true) : l.length ≤ s.size ∧ ((mkS l).toList == (s.extract 0 l.length).toList) = true := by
  have h2 : l <+: s.data.toList := List.isPrefixOf_iff_prefix.1 h
  have h3 := h2.length_le
  rw [← Lib.size_eq] at h3
  refine ⟨h3, ?_⟩
  rw [ext0, Lib.toList_data, Lib.toList_data, data_mkS, data_mkS, ← List.prefix_iff_eq_take.1 h2]
  exact beq_self_eq_true _
theorem walk (x0 : ByteArray) (w0 : x0.size ≤ maxLen) (w : World) (hT : Nu.Tabs w ∧ Mx w) :
    Calls Tryd.prog 5 #[.string x0] w fun e w' => e = .returned (.bool true) ∧ Below w.heap.size w w' := by
  unfold maxLen at w0
  obtain ⟨hT, hM⟩ := hT
  obtain ⟨s, hss, hcs⟩ : ∃ s : ByteArray, s.size ≤ 400 ∧ ((400 < x0.size ∧ s = x0.extract 0 400) ∨ s = x0) := by
    by_cases h : 400 < x0.size
    · exact ⟨_, by rw [ByteArray.size_extract]; omega, .inl ⟨h, rfl⟩⟩
    · exact ⟨x0, by omega, .inr rfl⟩
  have HP := Parse_c s w (paOk_small (by omega)) hM hT
  have HEM := fun W => Empty_c s W (by omega)
  obtain ⟨hem1, hem2⟩ := em_cut s.data.toList
  cases hq : parL s with
  | ok x =>
    obtain ⟨n, fs, bd, ln⟩ := x
    rw [hq] at HP
    have hk : ∃ m, ofLnL (spl (topB s)) ((bhB s).extract 0 m) = some (n, fs, bd) ∧ rightB n fs bd = true ∧ Lib.hasPrefix s.data.toList (encL n fs bd) = true ∧ ln = (encL n fs bd).length := by
      unfold parL at hq
      split at hq
      · cases hq
      split at hq
      · cases hq
      split at hq
      · cases hq
      rename_i m _ x hx
      split at hq
      · cases hq
      split at hq
      · cases hq
      rename_i hr hp
      injection hq with e
      injection e with e1 e
      injection e with e2 e
      injection e with e3 e4
      subst e1 e2 e3
      exact ⟨_, hx, by simpa using hr, by simpa using hp, e4.symm⟩
    obtain ⟨m, hol, hr, hp, rfl⟩ := hk
    obtain ⟨hl, heq⟩ := pre_ext hp
    obtain ⟨hx0, hx1, hxb, ls, hls, hlp, hll⟩ := ol_bd hol
    have hsz := spl_sz (topB s)
    have hle := (spl_len (topB s)).2
    obtain ⟨hc1, hc2⟩ := cut_sz s
    obtain ⟨hfm, hfn⟩ := flds_bd 1000 ls [] fs hls (fun l hl => by have := hsz l (hlp l hl); omega) (fun f hf => by cases hf)
    have hfb := flat_bm 1000 fs hfm
    simp only [List.length_nil] at hfn
    have hfs : ∀ f ∈ fs, smallF f := fun f hf => by have := hfm f hf; exact ⟨by omega, by omega⟩
    have hbx := ext_take (bhB s) m
    simp only at hx0 hx1 hxb
    have HPL := fun v W (h : RdF v fs W) => Plain_c n v fs bd W h (by omega)
    have HRI := fun v W (h : RdF v fs W) => RightR_c n v fs bd W h (by omega) hfs
    simp only [hr] at HRI
    have HER := fun v W (h : RdF v fs W) => EncodeR_c n v fs bd W (by omega) (by omega) h hfs (by omega) (by omega) (by omega)
    have HP2 : Calls Tryd.prog 14 #[.string s] w fun e w' => ∃ aq cq, e = .returned (.tuple #[.agg #[.int .i64 n, .slice aq fs.length cq, .string bd], .int .i64 (((encL n fs bd).length : Nat) : Int), .int .i64 0]) ∧ OwF 61 (w.heap.size + 1) (.slice aq fs.length cq) fs w' ∧ Below w.heap.size w w' := HP.mono fun e w' hh => by
      obtain ⟨⟨aq, cq, h1, h2⟩, h3⟩ := hh
      exact ⟨aq, cq, h1, h2, h3⟩
    rcases hcs with ⟨hb, he⟩ | rfl
    · exact pyB x0 s w0 hb he n fs bd _ _ hl hss w (Lib.hid hT) heq (by omega) (Lib.hid HP2) (Lib.hid HPL) (Lib.hid HRI) (Lib.hid HER)
    · exact pyS s hss n fs bd _ _ hl hss w (Lib.hid hT) heq (by omega) (Lib.hid HP2) (Lib.hid HPL) (Lib.hid HRI) (Lib.hid HER)
  | error st =>
    rw [hq] at HP
    cases hc : (Lib.cut s.data.toList endE).2.2 with
    | false =>
      have e : parL s = .error 11 := by unfold parL; rw [if_pos hc]
      obtain rfl : st = 11 := by rw [hq] at e; injection e
      simp only [hem1 hc] at HEM
      rcases hcs with ⟨hb, he⟩ | rfl
      · exact pmB x0 s w0 hb he w (Lib.hid hT) (Lib.hid HP) (Lib.hid HEM)
      · exact pmS s hss w (Lib.hid hT) (Lib.hid HP) (Lib.hid HEM)
    | true =>
      have h0 := hem2 hc
      have hem : decide (emI s.data.toList < 0) = false := decide_eq_false (by omega)
      have hst : st = 3 ∨ st = 11 := by
        unfold parL at hq
        split at hq
        · injection hq with e; exact .inr e.symm
        split at hq
        · injection hq with e; exact .inr e.symm
        split at hq
        · injection hq with e; exact .inl e.symm
        split at hq
        · injection hq with e; exact .inl e.symm
        split at hq
        · injection hq with e; exact .inl e.symm
        · cases hq
      rcases hst with rfl | rfl
      · rcases hcs with ⟨hb, he⟩ | rfl
        · exact pfB3 x0 s w0 hb he _ hem w (Lib.hid hT) (Lib.hid HP) (Lib.hid HEM)
        · exact pfS3 s hss _ hem w (Lib.hid hT) (Lib.hid HP) (Lib.hid HEM)
      · rcases hcs with ⟨hb, he⟩ | rfl
        · exact pfB11 x0 s w0 hb he _ hem w (Lib.hid hT) (Lib.hid HP) (Lib.hid HEM)
        · exact pfS11 s hss _ hem w (Lib.hid hT) (Lib.hid HP) (Lib.hid HEM)
end Go.Proofs.YtolfenachbbjdaaDoor.Rp
