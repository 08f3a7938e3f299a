/- The contracts of package jtok's Next: the token behind the blanks at any place, or why there is none; for every text of at most a thousand bytes; where the tables lie as the program's text lays them. -/
import Derived.Test.YtpgllcdcpdeicaaGreatDoorJtNexts
import Derived.Test.YtpgllcdcpdeicaaGreatDoorJtAs
import Derived.RegionTactic
import Derived.ChangeAlike
namespace Go.Proofs.YtpgllcdcpdeicaaGreatDoor.Jt
open Go.RowKit
set_option linter.unusedSimpArgs false
set_option linter.unusedVariables false

/-- errors.errorType lies as the library's text lays it -/
def ET (w : World) : Prop := w.cell? ⟨0, 0, none⟩ = some (.iface 98 (.agg #[.pointer (some ⟨4, 41, none⟩)]))
theorem ET.go {w w' : World} (h : ET w) (hb : Below w.heap.size w w') : ET w' := (hb.cell (p := ⟨0, 0, none⟩) (World.block_lt_of_cell? w _ h)).trans h
/-- what is laid: utf's tables and errors.errorType -/
def Env (w : World) : Prop := Ut.Tabs w ∧ ET w
theorem Env.go {w w' : World} (h : Env w) (hb : Below w.heap.size w w') : Env w' := ⟨h.1.go hb, h.2.go hb⟩
theorem Env.alloc {w : World} (h : Env w) (o : Obj) : Env (w.alloc o) := h.go ((Below.refl _ _).alloc (Nat.le_refl _) o)
theorem tokP_zero {l : List UInt8} {p : Nat} (h : (tokP l p).2 ≠ 0) : (tokP l p).1 = zT := by
  unfold tokP at h ⊢
  by_cases h1 : sgnI (at0 l p) ≠ 0
  · rw [if_pos h1] at h; exact absurd rfl h
  · rw [if_neg h1] at h ⊢
    by_cases h2 : at0 l p = 34
    · rw [if_pos h2] at h ⊢
      cases hx : textA l (p + 1) with
      | none => rfl
      | some r => rw [hx] at h; exact absurd rfl h
    · rw [if_neg h2] at h ⊢
      by_cases h3 : at0 l p = 45 ∨ Ch.digB (at0 l p) = true
      · rw [if_pos h3] at h ⊢
        by_cases h4 : Nu.pE (cutL l p (endP numB l p)) = 0
        · rw [if_pos h4] at h; exact absurd rfl h
        · rw [if_neg h4]
      · rw [if_neg h3] at h ⊢
        by_cases h4 : wrdK (cutL l p (endP wordB l p)) = 0
        · rw [if_pos h4]
        · rw [if_neg h4] at h; exact absurd rfl h
theorem tokA_zero {l : List UInt8} {k : Nat} (h : (tokA l k).2 ≠ 0) : (tokA l k).1 = zT := by
  unfold tokA at h ⊢
  by_cases h1 : l.length ≤ endP blkB l k
  · rw [if_pos h1]
  · rw [if_neg h1] at h ⊢; exact tokP_zero h
theorem five_aa {w : World} {g : Nat} {t : TypeId} {f : Nat × Nat} {x0 x1 x2 x3 x4 : Value} (h : w.heap[g]? = some (.cells #[x0, x1, x2, x3, x4] t f)) (v0 v1 v2 v3 v4 : Value) (o o' : Obj) :
    (((((((w.setCell ⟨g, 0, none⟩ v0).setCell ⟨g, 1, none⟩ v1).setCell ⟨g, 2, none⟩ v2).setCell ⟨g, 3, none⟩ v3).setCell ⟨g, 4, none⟩ v4).alloc o).alloc o').heap[g]? = some (.cells #[v0, v1, v2, v3, v4] t f) := by
  have h5 := Ut.five_a h v0 v1 v2 v3 v4 o
  exact (Below.heap_alloc _ o' g (Array.getElem?_eq_some_iff.1 h5).1).trans h5
def ret2 (t : Value) (e : Int) : Ending := .returned (.tuple #[t, .int .i64 e])
set_option maxRecDepth 100000 in
set_option maxHeartbeats 8000000 in
theorem Next_ok (s : ByteArray) (a : Nat) (w : World) (hE : Env w) (hs : s.size ≤ 1000) (ha : a ≤ s.size) (h : (tokA s.data.toList a).2 = 0) :
    Calls Tryz.prog 33 #[.string s, .int .i64 (a : Int)] w fun e w' => e = ret2 (tkV (tokA s.data.toList a).1) 0 ∧ Below w.heap.size w w' := by
  have HN := Lib.hid (fun (W : World) (hW : Ut.Tabs W) => next_c s a W hW hs ha)
  rw [h] at HN
  simp only [er0] at HN
  have HE := Lib.hid hE
  clear hE h
  revert HN
  generalize (tokA s.data.toList a).1 = t
  intro HN
  obtain ⟨tk, ta, tb, tt, tn⟩ := t
  simp only [tkV, tupV, tokV] at HN
  simp only [tkV, tokV]
  have HN2 := Lib.hid (HN.out _ (HE.out.1.alloc (.cells #[.int .i64 0, .int .i64 0, .int .i64 0, .string ⟨#[]⟩, .int .i64 0] 60)))
  go_enter Tryz.func33, Tryz.ntmps33
  go_wp2_with fail
  refine HN2.out.mono ?_
  rintro e w1 ⟨rfl, hb1⟩
  have HB1 := Lib.hid hb1
  have HBK1 := Lib.hid (keep5 hb1 rfl)
  have hlt : w.heap.size < w1.heap.size := by have := hb1.size; simp at this; omega
  clear hb1
  have c0 := Ut.blk_cell HBK1.out 0
  have c1 := Ut.blk_cell HBK1.out 1
  have c2 := Ut.blk_cell HBK1.out 2
  have c3 := Ut.blk_cell HBK1.out 3
  have c4 := Ut.blk_cell HBK1.out 4
  have z0 := Ut.blk_frz HBK1.out 0
  have z1 := Ut.blk_frz HBK1.out 1
  have z2 := Ut.blk_frz HBK1.out 2
  have z3 := Ut.blk_frz HBK1.out 3
  have z4 := Ut.blk_frz HBK1.out 4
  go_wp2_with (go_at_call 10; refine (as_nil _ _).mono ?_; rintro e w' ⟨rfl, rfl⟩)
  have H5 := five_aa HBK1.out (.int .i64 tk) (.int .i64 ta) (.int .i64 tb) (.string (mkS tt)) (.int .i64 tn) (.cells #[.int .i64 tk, .int .i64 ta, .int .i64 tb, .string (mkS tt), .int .i64 tn] 60) (.cells #[.int .i64 0, .int .i64 0] 124)
  have d0 := Ut.blk_cell H5 0
  have d1 := Ut.blk_cell H5 1
  have d2 := Ut.blk_cell H5 2
  have d3 := Ut.blk_cell H5 3
  have d4 := Ut.blk_cell H5 4
  clear c0 c1 c2 c3 c4 z0 z1 z2 z3 z4
  refine bodyPost_ret (v := .tuple #[tokV tk ta tb (mkS tt) tn, .int .i64 0]) (by simp [results, Tryz.results33, go_sem, tokV, d0, d1, d2, d3, d4]) rfl ⟨rfl, ?_⟩
  have hBB : Below w.heap.size w w1 := ((Below.refl _ _).alloc (Nat.le_refl _) _).trans (HB1.out.mono (by first | (simp; done) | (simp; omega)))
  (repeat (first | exact hBB | refine Below.alloc ?_ (by first | (simp; done) | (simp; omega)) _ | refine Below.setCell ?_ (by first | (simp; done) | (simp; omega)) _))
set_option maxRecDepth 100000 in
set_option maxHeartbeats 8000000 in
theorem Next_f (s : ByteArray) (a q te : Int) (w : World) (hE : Env w) (hte : te ≠ 0) (HN : Hid (∀ W : World, Ut.Tabs W → Calls Tryz.prog 49 #[.string s, .int .i64 a] W fun e w' => e = tupV (tkV zT) (.iface 124 (.agg #[.int .i64 q, .int .i64 te])) ∧ Below W.heap.size W w')) :
    Calls Tryz.prog 33 #[.string s, .int .i64 a] w fun e w' => e = ret2 (tkV zT) te ∧ Below w.heap.size w w' := by
  have HE := Lib.hid hE
  clear hE
  simp only [zT_v, tupV, tokV] at HN
  have HN2 := Lib.hid (HN.out _ (HE.out.1.alloc (.cells #[.int .i64 0, .int .i64 0, .int .i64 0, .string ⟨#[]⟩, .int .i64 0] 60)))
  clear HN
  go_enter Tryz.func33, Tryz.ntmps33
  go_wp2_with fail
  refine HN2.out.mono ?_
  rintro e w1 ⟨rfl, hb1⟩
  have HB1 := Lib.hid hb1
  have HBK1 := Lib.hid (keep5 hb1 rfl)
  have hlt : w.heap.size < w1.heap.size := by have := hb1.size; simp at this; omega
  have HE1 : Hid (Env w1) := (HE.out.alloc _).go hb1
  clear hb1
  have HW2 : Hid (∃ W2, W2 = (w1.alloc (.cells #[.int .i64 0, .int .i64 0, .int .i64 0, .string emS, .int .i64 0] 60)).alloc (.cells #[.int .i64 0, .int .i64 0] 124) ∧ Below w1.heap.size w1 W2 ∧ W2.heap[w1.heap.size + 1]? = some (.cells #[.int .i64 0, .int .i64 0] 124 (0, 0)) ∧ Env W2) :=
    ⟨_, rfl, ((Below.refl _ _).alloc (Nat.le_refl _) _).alloc (by simp) _, by have := heap_alloc_new (w1.alloc (.cells #[.int .i64 0, .int .i64 0, .int .i64 0, .string emS, .int .i64 0] 60)) (.cells #[.int .i64 0, .int .i64 0] 124); simpa using this, (HE1.out.alloc _).alloc _⟩
  have c0 := Ut.blk_cell HBK1.out 0
  have c1 := Ut.blk_cell HBK1.out 1
  have c2 := Ut.blk_cell HBK1.out 2
  have c3 := Ut.blk_cell HBK1.out 3
  have c4 := Ut.blk_cell HBK1.out 4
  have z0 := Ut.blk_frz HBK1.out 0
  have z1 := Ut.blk_frz HBK1.out 1
  have z2 := Ut.blk_frz HBK1.out 2
  have z3 := Ut.blk_frz HBK1.out 3
  have z4 := Ut.blk_frz HBK1.out 4
  obtain ⟨W2, hW2, hbW, hblkW, hEW⟩ := HW2.out
  have HA := Lib.hid (as_hit 0 0 (w1.heap.size + 1) (.int .i64 q) (.int .i64 te) (.int .i64 0) (.int .i64 0) W2 rfl rfl hEW.2 (Ut.blk_cell hblkW 0) (Ut.blk_cell hblkW 1) (Ut.blk_frz hblkW 0) (Ut.blk_frz hblkW 1))
  rw [hW2] at HA
  go_wp2_with (go_at_call 10; refine HA.out.mono ?_; rintro e w3 ⟨rfl, W3, hb3, rfl⟩)
  clear c0 c1 c2 c3 c4 z0 z1 z2 z3 z4 HA HN2 hEW
  have HD : Hid (∃ W4 fb, W4 = (W3.setCell ⟨w1.heap.size + 1, 0, none⟩ (.int .i64 q)).setCell ⟨w1.heap.size + 1, 1, none⟩ (.int .i64 te) ∧ fb = w1.heap.size + 1 ∧ W4.heap[fb]? = some (.cells #[.int .i64 q, .int .i64 te] 124 (0, 0)) ∧
      W4.heap[w.heap.size]? = some (.cells #[.int .i64 0, .int .i64 0, .int .i64 0, .string ⟨#[]⟩, .int .i64 0] 60 (0, 0)) ∧ w.heap.size < fb ∧ Below w.heap.size w W4) := by
    rw [← hW2] at hb3
    have hlW : w1.heap.size + 1 < W2.heap.size := (Array.getElem?_eq_some_iff.1 hblkW).1
    have hBw1 : Below w.heap.size w w1 := ((Below.refl _ _).alloc (Nat.le_refl _) _).trans (HB1.out.mono (by first | (simp; done) | (simp; omega)))
    have hBW3 : Below w.heap.size w W3 := (hBw1.trans (hbW.mono (by omega))).trans (hb3.mono (by omega))
    refine ⟨_, _, rfl, rfl, ?_, ?_, by omega, (hBW3.setCell (by simp; omega) _).setCell (by simp; omega) _⟩
    · have := Ut.blk_set (Ut.blk_set ((hb3.block _ hlW).trans hblkW) 0 (.int .i64 q)) 1 (.int .i64 te)
      simpa using this
    · rw [Below.heap_setCell _ _ _ _ (by simp; omega), Below.heap_setCell _ _ _ _ (by simp; omega)]
      exact (hb3.block _ (by omega)).trans ((hbW.block _ (by omega)).trans HBK1.out)
  obtain ⟨W4, fb, hW4, hfb, hkf, hkg, hgf, hBW4⟩ := HD.out
  rw [← hW4, ← hfb]
  clear hW4 HD HW2 hW2 hbW hblkW hb3 HE1 HBK1 HB1 hfb hlt
  have HKG := Lib.hid hkg
  have HBW := Lib.hid hBW4
  have c0 := Ut.blk_cell hkg 0
  have c1 := Ut.blk_cell hkg 1
  have c2 := Ut.blk_cell hkg 2
  have c3 := Ut.blk_cell hkg 3
  have c4 := Ut.blk_cell hkg 4
  have z0 := Ut.blk_frz hkg 0
  have z1 := Ut.blk_frz hkg 1
  have z2 := Ut.blk_frz hkg 2
  have z3 := Ut.blk_frz hkg 3
  have z4 := Ut.blk_frz hkg 4
  have f1 := Ut.blk_cell hkf 1
  have hne : ¬ fb = w.heap.size := by omega
  have hne2 : ¬ w.heap.size = fb := by omega
  clear hkg hkf hBW4 hgf
  go_region
  all_goals go_wp2
  have H5 := Ut.five HKG.out (.int .i64 0) (.int .i64 0) (.int .i64 0) (.string ⟨#[]⟩) (.int .i64 0)
  have d0 := Ut.blk_cell H5 0
  have d1 := Ut.blk_cell H5 1
  have d2 := Ut.blk_cell H5 2
  have d3 := Ut.blk_cell H5 3
  have d4 := Ut.blk_cell H5 4
  clear c0 c1 c2 c3 c4 z0 z1 z2 z3 z4 f1 hne hne2
  refine bodyPost_ret (v := .tuple #[tokV 0 0 0 emS 0, .int .i64 te]) (by simp [results, Tryz.results33, go_sem, tokV, emS, d0, d1, d2, d3, d4]) rfl ⟨rfl, ?_⟩
  refine Below.drew ?_
  (repeat (first | exact HBW.out | refine Below.alloc ?_ (by first | (simp; done) | (simp; omega)) _ | refine Below.setCell ?_ (by first | (simp; done) | (simp; omega)) _))
theorem Next_c (s : ByteArray) (a : Nat) (w : World) (hE : Env w) (hs : s.size ≤ 1000) (ha : a ≤ s.size) :
    Calls Tryz.prog 33 #[.string s, .int .i64 (a : Int)] w fun e w' => e = ret2 (tkV (tokA s.data.toList a).1) (tokA s.data.toList a).2 ∧ Below w.heap.size w w' := by
  by_cases h : (tokA s.data.toList a).2 = 0
  · rw [h]; exact Next_ok s a w hE hs ha h
  · rw [tokA_zero h]
    exact Next_f s a _ _ w hE h (fun W hW => by
      have g := next_c s a W hW hs ha
      rw [tokA_zero h, er1 h] at g
      exact g)
theorem Next_arg (s : ByteArray) (a : Int) (w : World) (hE : Env w) (hs : s.size ≤ 1000) (h : a < 0 ∨ (s.size : Int) < a) :
    Calls Tryz.prog 33 #[.string s, .int .i64 a] w fun e w' => e = ret2 (tkV zT) 1 ∧ Below w.heap.size w w' :=
  Next_f s a a 1 w hE (by decide) (fun W hW => next_arg s a W (by unfold maxLen; omega) h)
end Go.Proofs.YtpgllcdcpdeicaaGreatDoor.Jt
