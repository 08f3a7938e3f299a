/- The contract of the statements' awake: chapter 9's example; where the library's tables lie as the program's text lays them. -/
import Derived.Test.YtojmjdgapfcjfaaDoorEtHas
namespace Go.Proofs.YtojmjdgapfcjfaaDoor.Et
open Go.RowKit Ch
set_option linter.unusedSimpArgs false
set_option linter.unusedVariables false

def exL : List UInt8 := [34, 118, 49, 34, 44, 32, 87, 47, 34, 97, 44, 98, 34]
theorem ex_prs : prsL exL = some (false, [(false, [118, 49]), (true, [97, 44, 98])]) := by decide +kernel
theorem ex_has : hasL false [(false, [118, 49]), (true, [97, 44, 98])] false (118 :: Lib.itoa 1) = true := by decide +kernel
def AwK (w : World) (v : Value) (W : World) : Prop := OwT 28 w.heap.size v [(false, [118, 49]), (true, [97, 44, 98])] W ∧ Nu.Tabs W ∧ Below w.heap.size w W
theorem AwK.go {w : World} {v : Value} {W W' : World} (h : AwK w v W) (hb : Below W.heap.size W W') : AwK w v W' := ⟨h.1.go hb, h.2.1.go hb, h.2.2.trans (hb.mono h.2.2.size)⟩
theorem AwK.drew {w : World} {v : Value} {W : World} (h : AwK w v W) : AwK w v W.drew := h.go (⟨rfl, rfl, rfl, Nat.le_refl _, fun _ _ => rfl⟩)
theorem aw4 {W W' : World} {a b : Nat} {x y z u : Value} (hb : Below W.heap.size W W') (ha : a < W.heap.size) (hg : b < W.heap.size) (k0 : W.cell? ⟨a, 0, none⟩ = some x) (k1 : W.cell? ⟨a, 1, none⟩ = some y) (p0 : W.cell? ⟨b, 2, none⟩ = some z) (p1 : W.cell? ⟨b, 3, none⟩ = some u) : W'.cell? ⟨a, 0, none⟩ = some x ∧ W'.cell? ⟨a, 1, none⟩ = some y ∧ W'.cell? ⟨b, 2, none⟩ = some z ∧ W'.cell? ⟨b, 3, none⟩ = some u :=
  ⟨(hb.cell (p := ⟨a, 0, none⟩) ha).trans k0, (hb.cell (p := ⟨a, 1, none⟩) ha).trans k1, (hb.cell (p := ⟨b, 2, none⟩) hg).trans p0, (hb.cell (p := ⟨b, 3, none⟩) hg).trans p1⟩
set_option maxRecDepth 100000 in
set_option maxHeartbeats 4000000 in
theorem awake_c (w : World) (hT : Nu.Tabs w) : Calls Tryd.prog 11 #[] w fun e w' => e = .returned (.bool true) ∧ Below w.heap.size w w' := by
  have HN := Lib.hid (Parse_c ⟨#[34, 118, 49, 34, 44, 32, 87, 47, 34, 97, 44, 98, 34]⟩ w (by decide))
  rw [show (ByteArray.mk #[34, 118, 49, 34, 44, 32, 87, 47, 34, 97, 44, 98, 34]).data.toList = exL from rfl, ex_prs] at HN
  have HT := Lib.hid hT
  have hs := stood
  clear hT
  go_enter Tryd.func11, Tryd.ntmps11
  go_wp2_with fail
  refine HN.out.mono ?_
  rintro e w1 ⟨ao, n, c, he, ho, hb1⟩
  obtain rfl : e = .returned (.tuple #[.agg #[.bool false, .slice ao n c], .int .i64 0]) := he
  replace ho : OwT 28 w.heap.size (.slice ao n c) [(false, [118, 49]), (true, [97, 44, 98])] w1 := ho
  have HB1 := Lib.hid hb1
  obtain ⟨g, cap, e1, hg1, hgB, hc1, hat⟩ := owt_at ho (by decide)
  injection e1 with e1a e1b e1c
  obtain rfl : n = 2 := e1b
  subst e1a e1c
  have hz1 := hb1.size
  have HW : Hid (∃ W2, W2 = w1.alloc (.cells #[.bool false, .slice (some ⟨g, 0, none⟩) 2 c] 39) ∧ AwK w (.slice (some ⟨g, 0, none⟩) 2 c) W2 ∧ W2.cell? ⟨w1.heap.size, 0, none⟩ = some (.bool false) ∧ W2.cell? ⟨w1.heap.size, 1, none⟩ = some (.slice (some ⟨g, 0, none⟩) 2 c) ∧ W2.cell? ⟨g, 2, none⟩ = some (.bool true) ∧ W2.cell? ⟨g, 3, none⟩ = some (.string ⟨#[97, 44, 98]⟩) ∧ w1.heap.size < W2.heap.size ∧ g < W2.heap.size) := by
    have hbW : Below w1.heap.size w1 (w1.alloc (.cells #[.bool false, .slice (some ⟨g, 0, none⟩) 2 c] 39)) := (Below.refl _ _).alloc (Nat.le_refl _) _
    have hk := heap_alloc_new w1 (.cells #[.bool false, .slice (some ⟨g, 0, none⟩) 2 c] 39)
    have ha := hat 1 (by decide)
    refine ⟨_, rfl, ⟨ho.go hbW, (HT.out.go hb1).go hbW, hb1.trans (hbW.mono hz1)⟩, cell_of_row _ _ 0 _ _ _ hk, cell_of_row _ _ 1 _ _ _ hk, (hbW.cell (p := ⟨g, 2, none⟩) hg1).trans ha.1, (hbW.cell (p := ⟨g, 3, none⟩) hg1).trans ha.2, by simp, by simp; omega⟩
  obtain ⟨W2, hW2, hA, k0, k1, p0, p1, hl1, hl2⟩ := HW.out
  have HA := Lib.hid hA
  clear ho hb1 hat HW hA
  go_wp2_with fail
  rw [← hW2]
  clear hW2
  have HOF := Lib.hid (fun W (h : Nu.Tabs W) => Of_c 1 W (by decide) (by decide) h)
  have HH := Lib.hid (fun W (h : OwT 28 w.heap.size (.slice (some ⟨g, 0, none⟩) 2 c) [(false, [118, 49]), (true, [97, 44, 98])] W) => Has_c false (.slice (some ⟨g, 0, none⟩) 2 c) _ false (mkS (118 :: Lib.itoa 1)) w.heap.size W h (by decide))
  rw [data_mkS, ex_has] at HH
  go_region_held3 (fun W => W.cell? ⟨w1.heap.size, 0, none⟩ = some (.bool false) ∧ W.cell? ⟨w1.heap.size, 1, none⟩ = some (.slice (some ⟨g, 0, none⟩) 2 c) ∧ W.cell? ⟨g, 2, none⟩ = some (.bool true) ∧ W.cell? ⟨g, 3, none⟩ = some (.string ⟨#[97, 44, 98]⟩) ∧ AwK w (.slice (some ⟨g, 0, none⟩) 2 c) W)
    (first | exact ⟨k04, k14, p04, p14, HA4.out⟩ | exact ⟨k03, k13, p03, p13, HA3.out⟩ | exact ⟨k0, k1, p0, p1, HA.out.drew⟩)
    (first | (go_at_call 18; refine (HOF.out _ HA.out.drew.2.1).mono ?_; rintro e w3 ⟨rfl, hb3⟩; have HA3 := Lib.hid (HA.out.drew.go hb3); obtain ⟨k03, k13, p03, p13⟩ := aw4 hb3 hl1 hl2 k0 k1 p0 p1; have hz3 := hb3.size; clear hb3)
           | (go_at_call 17; refine (HH.out _ HA3.out.1).mono ?_; rintro e w4 ⟨rfl, hb4⟩; have HA4 := Lib.hid (HA3.out.go hb4); obtain ⟨k04, k14, p04, p14⟩ := aw4 hb4 (Nat.lt_of_lt_of_le hl1 hz3) (Nat.lt_of_lt_of_le hl2 hz3) k03 k13 p03 p13; clear hb4))
  go_wp2
  go_ret
  exact ⟨rfl, HA4.out.2.2⟩
end Go.Proofs.YtojmjdgapfcjfaaDoor.Et
