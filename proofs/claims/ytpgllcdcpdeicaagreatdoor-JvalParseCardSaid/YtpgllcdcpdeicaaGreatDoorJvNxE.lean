/- The contract of package jval's reader.next where no token comes. -/
import Derived.Test.YtpgllcdcpdeicaaGreatDoorJvGa
namespace Go.Proofs.YtpgllcdcpdeicaaGreatDoor.Jv
open Jt
open Go.RowKit
set_option linter.unusedSimpArgs false
set_option linter.unusedVariables false

set_option maxRecDepth 100000 in
set_option maxHeartbeats 1000000 in
theorem next_e (g a fr p : Nat) (s : ByteArray) (te : Int) (w : World) (hR : Rd g s a w) (hE : Env w)
    (hte : te = 3 ∨ te = 5 ∨ te = 6) (has : a ≤ s.size) (hs : s.size ≤ 1000) (hp : a + fr = p) (hfr : p ≤ s.size)
    (HN : Hid (∀ W, Env W → Calls Tryz.prog 33 #[.string s, .int .i64 (a : Int)] W fun e w' => e = .returned (.tuple #[.agg #[.int .i64 0, .int .i64 0, .int .i64 0, .string ⟨#[]⟩, .int .i64 0], .int .i64 te]) ∧ Below W.heap.size W w'))
    (HA : Hid (∀ W, Env W → Calls Tryz.prog 34 #[.string (s.extract a s.size)] W fun e w' => ∃ v x, e = .returned (.tuple #[v, .int .i64 (fr : Int), .int .i64 x]) ∧ Below W.heap.size W w')) :
    Calls Tryz.prog 16 #[.pointer (some ⟨g, 0, none⟩)] w fun e w' => e = .returned (.tuple #[.agg #[.int .i64 0, .int .i64 0, .int .i64 0, .string ⟨#[]⟩, .int .i64 0], .iface 45 (.agg #[.int .i64 (p : Int), .int .i64 te])]) ∧ Below w.heap.size w w' := by
  have hne : te ≠ 0 := by rcases hte with rfl | rfl | rfl <;> decide
  have HAS : Hid (a ≤ s.size ∧ s.size ≤ 1000 ∧ a + fr = p ∧ p ≤ s.size) := ⟨has, hs, hp, hfr⟩
  have hn1 : (a : Int) ≤ (s.size : Int) := by omega
  have hn0 : (0 : Int) ≤ (a : Int) := by omega
  clear has hs hp hfr hte
  obtain ⟨W0, hW0, hk0, hb0⟩ := newT w 0 0 0 ⟨#[]⟩ 0
  have hgl : g < w.heap.size := (Array.getElem?_eq_some_iff.1 hR).1
  have HW0 := Lib.hid hW0
  have HK0 := Lib.hid hk0
  have HB0 := Lib.hid hb0
  have hR0 : Rd g s a W0 := (hb0.block _ hgl).trans hR
  have HR0 := Lib.hid hR0
  have HE0 : Hid (Env W0.drew) := (hE.go hb0 : Env W0)
  have hz0 : w.heap.size < W0.heap.size := (Array.getElem?_eq_some_iff.1 hk0).1
  obtain ⟨W1, hW1, hk1, hb1⟩ := newT W0 0 0 0 ⟨#[]⟩ 0
  have hz1 : W0.heap.size < W1.heap.size := (Array.getElem?_eq_some_iff.1 hk1).1
  have hg0' : g ≠ W0.heap.size := by omega
  have HR1 : Hid (Rd g s a W1) := (hb1.block _ (by omega)).trans hR0
  have HK1 : Hid (W1.heap[w.heap.size]? = some (obT 0 0 0 ⟨#[]⟩ 0)) := (hb1.block _ hz0).trans hk0
  have HX1 := Lib.hid hk1
  have HE1 : Hid (Env W1.drew) := ((hE.go hb0).go hb1 : Env W1)
  have HB1 : Hid (Below w.heap.size w W1) := hb0.trans (hb1.mono (Nat.le_of_lt hz0))
  have HW1 := Lib.hid hW1
  have c0 := cell_of_row _ _ 0 _ _ _ hR0
  have c1 := cell_of_row _ _ 1 _ _ _ hR0
  have HKA : Hid (W0.drew.cell? ⟨g, 0, none⟩ = some (.string s) ∧ W0.drew.cell? ⟨g, 1, none⟩ = some (.int .i64 (a : Int))) := ⟨cell_of_row _ _ 0 _ _ _ hR0, cell_of_row _ _ 1 _ _ _ hR0⟩
  have HKB : Hid (W1.drew.cell? ⟨g, 0, none⟩ = some (.string s) ∧ W1.drew.cell? ⟨g, 1, none⟩ = some (.int .i64 (a : Int))) := ⟨cell_of_row _ _ 0 _ _ _ HR1.out, cell_of_row _ _ 1 _ _ _ HR1.out⟩
  rw [hW1] at HKB
  have HEE := Lib.hid hE
  clear hW0 hk0 hb0 hR0 hW1 hk1 hb1 hE hR
  go_enter Tryz.func16, Tryz.ntmps16
  go_wp2_with fail
  rw [← HW0.out]
  go_region_held3 (fun V => V.cell? ⟨g, 0, none⟩ = some (.string s) ∧ V.cell? ⟨g, 1, none⟩ = some (.int .i64 (a : Int)))
    (first | (with_reducible exact HKA.out) | (with_reducible exact HKB.out) | (with_reducible exact HK3.out) | (with_reducible exact HK3a.out) | (with_reducible exact HK3r.out) | (with_reducible exact HK3s.out) | (with_reducible exact HK4.out) | (with_reducible exact HK4s.out))
    (first
      | (go_at_call 33; (with_reducible refine (HN.out W0.drew HE0.out).mono ?_); rintro e w3 ⟨rfl, hb3⟩; have hb3' : Below W0.heap.size W0 w3 := ⟨hb3.os, hb3.tape, hb3.output, hb3.size, hb3.block⟩; have HR3 : Hid (Rd g s a w3) := HR0.out.go hb3'; have HT3 : Hid (w3.heap[w.heap.size]? = some (obT 0 0 0 ⟨#[]⟩ 0)) := (hb3'.block _ hz0).trans HK0.out; have HB3 : Hid (Below w.heap.size w w3) := HB0.out.trans (hb3'.mono (Nat.le_of_lt hz0)); have hg3 : g < w3.heap.size := HR3.out.lt; have hg3' : g ≠ w3.heap.size := Nat.ne_of_lt HR3.out.lt; have HK3 := Lib.hid HR3.out.cells; have HK3a := Lib.hid (HR3.out.al (.cells #[.int .i64 0, .int .i64 0, .int .i64 0, .string ⟨#[]⟩, .int .i64 0] 60)).cells; have HK3r := Lib.hid (HR3.out.al (.cells #[.int .i64 0, .int .i64 0, .int .i64 0, .string ⟨#[]⟩, .int .i64 0] 60)).cells; have HK3s := Lib.hid ((HR3.out.al (.cells #[.int .i64 0, .int .i64 0, .int .i64 0, .string ⟨#[]⟩, .int .i64 0] 60)).st5 (r := w3.heap.size) (Ne.symm hg3') (.int .i64 0) (.int .i64 0) (.int .i64 0) (.string ⟨#[]⟩) (.int .i64 0)).cells; clear hb3 hb3')
      | (go_at_call 33; rw [← HW1.out]; (with_reducible refine (HN.out W1.drew HE1.out).mono ?_); rintro e w4 ⟨rfl, hb4⟩; have hb4' : Below W1.heap.size W1 w4 := ⟨hb4.os, hb4.tape, hb4.output, hb4.size, hb4.block⟩; have HR4 : Hid (Rd g s a w4) := HR1.out.go hb4'; have HT4 : Hid (w4.heap[w.heap.size]? = some (obT 0 0 0 ⟨#[]⟩ 0)) := (hb4'.block _ (Nat.lt_trans hz0 hz1)).trans HK1.out; have HN4 : Hid (w4.heap[W0.heap.size]? = some (obT 0 0 0 ⟨#[]⟩ 0)) := (hb4'.block _ hz1).trans HX1.out; have HB4 : Hid (Below w.heap.size w w4) := HB1.out.trans (hb4'.mono (Nat.le_of_lt (Nat.lt_trans hz0 hz1))); have n0 := cell_of_row _ _ 0 _ _ _ HN4.out; have n1 := cell_of_row _ _ 1 _ _ _ HN4.out; have n2 := cell_of_row _ _ 2 _ _ _ HN4.out; have n3 := cell_of_row _ _ 3 _ _ _ HN4.out; have n4 := cell_of_row _ _ 4 _ _ _ HN4.out; have f0 := frz HN4.out 0; have f1 := frz HN4.out 1; have f2 := frz HN4.out 2; have f3 := frz HN4.out 3; have f4 := frz HN4.out 4; have HK4 := Lib.hid HR4.out.cells; have HK4s := Lib.hid (HR4.out.st5 (r := W0.heap.size) (Ne.symm hg0') (.int .i64 0) (.int .i64 0) (.int .i64 0) (.string ⟨#[]⟩) (.int .i64 0)).cells; clear hb4 hb4'))
  · have HTX : Hid ((w3.alloc (.cells #[.int .i64 0, .int .i64 0, .int .i64 0, .string ⟨#[]⟩, .int .i64 0] 60)).heap[w.heap.size]? = some (obT 0 0 0 ⟨#[]⟩ 0)) := (((Below.refl w3.heap.size w3).alloc (Nat.le_refl _) _).block _ (Array.getElem?_eq_some_iff.1 HT3.out).1).trans HT3.out
    have HBX : Hid (Below w.heap.size w (w3.alloc (.cells #[.int .i64 0, .int .i64 0, .int .i64 0, .string ⟨#[]⟩, .int .i64 0] 60))) := HB3.out.alloc HB3.out.size _
    have HPX : Hid (Rd g s a (w3.alloc (.cells #[.int .i64 0, .int .i64 0, .int .i64 0, .string ⟨#[]⟩, .int .i64 0] 60))) := HR3.out.al _
    have hlw : w.heap.size < w3.heap.size := (Array.getElem?_eq_some_iff.1 HT3.out).1
    clear c0 c1 HK3 HK3a HK3r HK3s HKA HKB
    generalize (w3.alloc (.cells #[.int .i64 0, .int .i64 0, .int .i64 0, .string ⟨#[]⟩, .int .i64 0] 60)) = wx at HTX HBX HPX ⊢
    generalize hrb : w3.heap.size = rb at hlw ⊢
    clear hrb HW0 HK0 HB0 HR0 HE0 HR1 HK1 HX1 HE1 HB1 HW1
    have HEX : Hid (Env wx.drew) := (HEE.out.go HBX.out : Env wx)
    have hwx : w.heap.size < wx.heap.size := (Array.getElem?_eq_some_iff.1 HTX.out).1
    have HKX := Lib.hid HPX.out.cells
    have HKD : Hid (wx.drew.cell? ⟨g, 0, none⟩ = some (.string s) ∧ wx.drew.cell? ⟨g, 1, none⟩ = some (.int .i64 (a : Int))) := HPX.out.cells
    obtain ⟨x0, x1⟩ := HPX.out.cells
    go_wp2_with fail
    go_region_held3 (fun V => V.cell? ⟨g, 0, none⟩ = some (.string s) ∧ V.cell? ⟨g, 1, none⟩ = some (.int .i64 (a : Int)))
      (first | (with_reducible exact HKX.out) | (with_reducible exact HKD.out) | (with_reducible exact HK5.out))
      ((go_at_call 34; (with_reducible refine (HA.out _ HEX.out).mono ?_); rintro e w5 ⟨v, ax, rfl, hb5⟩; have hb5' : Below wx.heap.size wx w5 := ⟨hb5.os, hb5.tape, hb5.output, hb5.size, hb5.block⟩; have HR5 : Hid (Rd g s a w5) := HPX.out.go hb5'; have HT5 : Hid (w5.heap[w.heap.size]? = some (obT 0 0 0 ⟨#[]⟩ 0)) := (hb5'.block _ hwx).trans HTX.out; have HB5 : Hid (Below w.heap.size w w5) := HBX.out.trans (hb5'.mono (Nat.le_of_lt hwx)); have HK5 := Lib.hid HR5.out.cells; clear hb5 hb5'))
    clear HKX HKD
    obtain ⟨y0, y1⟩ := HK5.out
    obtain ⟨t0, t1, t2, t3, t4⟩ := cells5 HT5.out
    have z0 := frz HT5.out 0
    have z1 := frz HT5.out 1
    have z2 := frz HT5.out 2
    have z3 := frz HT5.out 3
    have z4 := frz HT5.out 4
    have hpq : (a : Int) + (fr : Int) = (p : Int) := by have := HAS.out; omega
    have hp0 : (0 : Int) ≤ (p : Int) := by have := HAS.out; omega
    have hp1 : (p : Int) ≤ 1000 := by have := HAS.out; omega
    have hwr : IntKind.i64.wrap ((a : Int) + (fr : Int)) = (p : Int) := by rw [hpq, IntKind.wrap_i64]; omega
    have hgw : g ≠ w.heap.size := Nat.ne_of_lt hgl
    have HH := Lib.hid (set5 HT5.out (.int .i64 0) (.int .i64 0) (.int .i64 0) (.string ⟨#[]⟩) (.int .i64 0))
    have HGX := Lib.hid (HB5.out.trans (bel_set5 (B := w.heap.size) (r := w.heap.size) w5 (Nat.le_refl _) (.int .i64 0) (.int .i64 0) (.int .i64 0) (.string ⟨#[]⟩) (.int .i64 0)))
    go_wp2_with fail
    go_region
    all_goals go_wp2_with fail
    obtain ⟨d0, d1, d2, d3, d4⟩ := cells5 HH.out
    clear x0 x1 y0 y1 t0 t1 t2 t3 t4 z0 z1 z2 z3 z4
    (with_reducible refine bodyPost_ret (v := .tuple #[.agg #[.int .i64 0, .int .i64 0, .int .i64 0, .string ⟨#[]⟩, .int .i64 0], .iface 45 (.agg #[.int .i64 (p : Int), .int .i64 te])]) (by simp [results, Tryz.results16, go_sem, d0, d1, d2, d3, d4, hwr]) rfl ⟨rfl, Below.drew HGX.out⟩)
  · have HTX : Hid ((((((w4.setCell ⟨W0.heap.size, 0, none⟩ (.int .i64 0)).setCell ⟨W0.heap.size, 1, none⟩ (.int .i64 0)).setCell ⟨W0.heap.size, 2, none⟩ (.int .i64 0)).setCell ⟨W0.heap.size, 3, none⟩ (.string ⟨#[]⟩)).setCell ⟨W0.heap.size, 4, none⟩ (.int .i64 0)).heap[w.heap.size]? = some (obT 0 0 0 ⟨#[]⟩ 0)) := ((bel_set5 (B := W0.heap.size) w4 (Nat.le_refl _) _ _ _ _ _).block _ hz0).trans HT4.out
    have HBX : Hid (Below w.heap.size w (((((w4.setCell ⟨W0.heap.size, 0, none⟩ (.int .i64 0)).setCell ⟨W0.heap.size, 1, none⟩ (.int .i64 0)).setCell ⟨W0.heap.size, 2, none⟩ (.int .i64 0)).setCell ⟨W0.heap.size, 3, none⟩ (.string ⟨#[]⟩)).setCell ⟨W0.heap.size, 4, none⟩ (.int .i64 0))) := HB4.out.trans (bel_set5 w4 (Nat.le_of_lt hz0) _ _ _ _ _)
    have HPX : Hid (Rd g s a (((((w4.setCell ⟨W0.heap.size, 0, none⟩ (.int .i64 0)).setCell ⟨W0.heap.size, 1, none⟩ (.int .i64 0)).setCell ⟨W0.heap.size, 2, none⟩ (.int .i64 0)).setCell ⟨W0.heap.size, 3, none⟩ (.string ⟨#[]⟩)).setCell ⟨W0.heap.size, 4, none⟩ (.int .i64 0))) := HR4.out.st5 (Ne.symm hg0') _ _ _ _ _
    have hlw : w.heap.size < W0.heap.size := hz0
    clear c0 c1 n0 n1 n2 n3 n4 f0 f1 f2 f3 f4 HK4 HK4s HKA HKB
    generalize (((((w4.setCell ⟨W0.heap.size, 0, none⟩ (.int .i64 0)).setCell ⟨W0.heap.size, 1, none⟩ (.int .i64 0)).setCell ⟨W0.heap.size, 2, none⟩ (.int .i64 0)).setCell ⟨W0.heap.size, 3, none⟩ (.string ⟨#[]⟩)).setCell ⟨W0.heap.size, 4, none⟩ (.int .i64 0)) = wx at HTX HBX HPX ⊢
    generalize hrb : W0.heap.size = rb at hlw ⊢
    clear hrb HW0 HK0 HB0 HR0 HE0 HR1 HK1 HX1 HE1 HB1 HW1
    have HEX : Hid (Env wx.drew) := (HEE.out.go HBX.out : Env wx)
    have hwx : w.heap.size < wx.heap.size := (Array.getElem?_eq_some_iff.1 HTX.out).1
    have HKX := Lib.hid HPX.out.cells
    have HKD : Hid (wx.drew.cell? ⟨g, 0, none⟩ = some (.string s) ∧ wx.drew.cell? ⟨g, 1, none⟩ = some (.int .i64 (a : Int))) := HPX.out.cells
    obtain ⟨x0, x1⟩ := HPX.out.cells
    go_wp2_with fail
    go_region_held3 (fun V => V.cell? ⟨g, 0, none⟩ = some (.string s) ∧ V.cell? ⟨g, 1, none⟩ = some (.int .i64 (a : Int)))
      (first | (with_reducible exact HKX.out) | (with_reducible exact HKD.out) | (with_reducible exact HK5.out))
      ((go_at_call 34; (with_reducible refine (HA.out _ HEX.out).mono ?_); rintro e w5 ⟨v, ax, rfl, hb5⟩; have hb5' : Below wx.heap.size wx w5 := ⟨hb5.os, hb5.tape, hb5.output, hb5.size, hb5.block⟩; have HR5 : Hid (Rd g s a w5) := HPX.out.go hb5'; have HT5 : Hid (w5.heap[w.heap.size]? = some (obT 0 0 0 ⟨#[]⟩ 0)) := (hb5'.block _ hwx).trans HTX.out; have HB5 : Hid (Below w.heap.size w w5) := HBX.out.trans (hb5'.mono (Nat.le_of_lt hwx)); have HK5 := Lib.hid HR5.out.cells; clear hb5 hb5'))
    clear HKX HKD
    obtain ⟨y0, y1⟩ := HK5.out
    obtain ⟨t0, t1, t2, t3, t4⟩ := cells5 HT5.out
    have z0 := frz HT5.out 0
    have z1 := frz HT5.out 1
    have z2 := frz HT5.out 2
    have z3 := frz HT5.out 3
    have z4 := frz HT5.out 4
    have hpq : (a : Int) + (fr : Int) = (p : Int) := by have := HAS.out; omega
    have hp0 : (0 : Int) ≤ (p : Int) := by have := HAS.out; omega
    have hp1 : (p : Int) ≤ 1000 := by have := HAS.out; omega
    have hwr : IntKind.i64.wrap ((a : Int) + (fr : Int)) = (p : Int) := by rw [hpq, IntKind.wrap_i64]; omega
    have hgw : g ≠ w.heap.size := Nat.ne_of_lt hgl
    have HH := Lib.hid (set5 HT5.out (.int .i64 0) (.int .i64 0) (.int .i64 0) (.string ⟨#[]⟩) (.int .i64 0))
    have HGX := Lib.hid (HB5.out.trans (bel_set5 (B := w.heap.size) (r := w.heap.size) w5 (Nat.le_refl _) (.int .i64 0) (.int .i64 0) (.int .i64 0) (.string ⟨#[]⟩) (.int .i64 0)))
    go_wp2_with fail
    go_region
    all_goals go_wp2_with fail
    obtain ⟨d0, d1, d2, d3, d4⟩ := cells5 HH.out
    clear x0 x1 y0 y1 t0 t1 t2 t3 t4 z0 z1 z2 z3 z4
    (with_reducible refine bodyPost_ret (v := .tuple #[.agg #[.int .i64 0, .int .i64 0, .int .i64 0, .string ⟨#[]⟩, .int .i64 0], .iface 45 (.agg #[.int .i64 (p : Int), .int .i64 te])]) (by simp [results, Tryz.results16, go_sem, d0, d1, d2, d3, d4, hwr]) rfl ⟨rfl, Below.drew HGX.out⟩)
end Go.Proofs.YtpgllcdcpdeicaaGreatDoor.Jv
