/- Contracts of package chain's Spare, Last, At: at every chain of the call's own; no other condition. -/
import Derived.Test.YthioghbifpphiaaCnC
namespace Go.Proofs.Ythioghbifpphiaa.Cn
open Go.RowKit Go.Lib Go.Shelf Go.Sort
set_option linter.unusedSimpArgs false
set_option linter.unusedVariables false

theorem bdrN (W : World) (n : Nat) : Below W.heap.size W (W.drewN n) := ⟨rfl, rfl, rfl, Nat.le_refl _, fun _ _ => rfl⟩
set_option maxRecDepth 100000 in
set_option maxHeartbeats 2000000 in
theorem Spare_c (B c N : Nat) (gb : Option Nat) (l : List Ver) (rev : Int) (w : World) (h : IsCh B c N gb l w) (hN : N ≤ 1000000) (ha : Asc l) :
    Calls Try.prog 53 #[.pointer (some ⟨c, 0, none⟩), .int .i64 rev] w fun e w' => e = .returned (.int .i64 (spr l rev : Nat)) ∧ Below w.heap.size w w' := by
  have HK := Lib.hid (kept_c B c N gb l w h hN)
  have hl := h.le
  have HU := Lib.hid (fun ao cap n hR => upTo_c ao cap l rev (w.drewN n) hR ha (by omega))
  have hcl := cnt_le l rev
  clear h
  by_cases h0 : cnt l rev = 0
  · have HS : Hid (spr l rev = 0) := by show _ = _; unfold spr; rw [if_pos h0]
    rw [h0] at HU
    rw [HS.out]
    clear h0 hcl
    go_enter Try.func53, Try.ntmps53
    go_wp2_with fail
    refine HK.out.mono ?_
    rintro e w' ⟨ao, cap, rfl, hR, n, rfl⟩
    have HR := Lib.hid (hR.go (bdrN w n))
    clear hR
    go_wp2_with fail
    refine (HU.out ao cap n HR.out).mono ?_
    rintro e w2 ⟨rfl, hb⟩
    have HB := Lib.hid hb
    clear hb
    go_wp2
    go_ret
    exact ⟨rfl, (bdrN w n).trans HB.out⟩
  · obtain ⟨m, hm⟩ : ∃ m, cnt l rev = m + 1 := ⟨cnt l rev - 1, by omega⟩
    have hml : m < l.length := by omega
    have HS : Hid (spr l rev = if l[m].2.2 = true then m + 1 else m) := by
      show _ = _; unfold spr; rw [if_neg h0, hm, show m + 1 - 1 = m by omega, gone_at hml]
    rw [hm] at HU
    rw [show ((m + 1 : Nat) : Int) = (m : Int) + 1 by omega] at HU
    have hm0 : (0 : Int) ≤ (m : Int) := by omega
    have hmi : (m : Int) < (l.length : Int) := by omega
    clear h0 hcl hm ha
    cases hgn : l[m].2.2 with
    | true =>
      rw [hgn, if_pos rfl] at HS
      rw [HS.out, show ((m + 1 : Nat) : Int) = (m : Int) + 1 by omega]
      have HGN := Lib.hid hgn
      clear hgn HS
      go_enter Try.func53, Try.ntmps53
      go_wp2_with fail
      refine HK.out.mono ?_
      rintro e w' ⟨ao, cap, rfl, hR, n, rfl⟩
      have HR := Lib.hid (hR.go (bdrN w n))
      clear hR
      go_wp2_with fail
      refine (HU.out ao cap n HR.out).mono ?_
      rintro e w2 ⟨rfl, hb⟩
      have HB := Lib.hid hb
      obtain ⟨g, off, rfl, hg, hat⟩ := rdv_at (HR.out.go hb) (by omega)
      obtain ⟨_, _, p2⟩ := hat m hml
      rw [HGN.out] at p2
      clear hb hat
      go_wp2
      go_ret
      exact ⟨rfl, (bdrN w n).trans HB.out⟩
    | false =>
      rw [hgn, if_neg (by decide)] at HS
      rw [HS.out]
      have HGN := Lib.hid hgn
      clear hgn HS
      go_enter Try.func53, Try.ntmps53
      go_wp2_with fail
      refine HK.out.mono ?_
      rintro e w' ⟨ao, cap, rfl, hR, n, rfl⟩
      have HR := Lib.hid (hR.go (bdrN w n))
      clear hR
      go_wp2_with fail
      refine (HU.out ao cap n HR.out).mono ?_
      rintro e w2 ⟨rfl, hb⟩
      have HB := Lib.hid hb
      obtain ⟨g, off, rfl, hg, hat⟩ := rdv_at (HR.out.go hb) (by omega)
      obtain ⟨_, _, p2⟩ := hat m hml
      rw [HGN.out] at p2
      clear hb hat
      go_wp2
      go_ret
      exact ⟨rfl, (bdrN w n).trans HB.out⟩
theorem frz {w : World} {g : Nat} {cs : Array Value} {t : TypeId} (h : w.heap[g]? = some (.cells cs t (0, 0))) (i : Nat) : w.frozen? ⟨g, i, none⟩ = false := by simp [World.frozen?, h]
theorem blk_set {w : World} {g : Nat} {cs : Array Value} {t : TypeId} (h : w.heap[g]? = some (.cells cs t (0, 0))) (i : Nat) (u : Value) : (w.setCell ⟨g, i, none⟩ u).heap[g]? = some (.cells (cs.setIfInBounds i u) t (0, 0)) := by
  rw [setCell_eq_setRow w g i cs t (0, 0) u h]
  have := setRow_heap w g cs (cs.setIfInBounds i u) t (0, 0) h
  simpa using this
theorem st3 {w : World} {g : Nat} {a b c : Value} {t : TypeId} (h : w.heap[g]? = some (.cells #[a, b, c] t (0, 0))) (x y z : Value) : (((w.setCell ⟨g, 0, none⟩ x).setCell ⟨g, 1, none⟩ y).setCell ⟨g, 2, none⟩ z).heap[g]? = some (.cells #[x, y, z] t (0, 0)) := by
  simpa using blk_set (blk_set (blk_set h 0 x) 1 y) 2 z
theorem cells3 {w : World} {g : Nat} {a b c : Value} {t : TypeId} (h : w.heap[g]? = some (.cells #[a, b, c] t (0, 0))) : w.cell? ⟨g, 0, none⟩ = some a ∧ w.cell? ⟨g, 1, none⟩ = some b ∧ w.cell? ⟨g, 2, none⟩ = some c := ⟨cell_of_row _ _ 0 _ _ _ h, cell_of_row _ _ 1 _ _ _ h, cell_of_row _ _ 2 _ _ _ h⟩
/-- three stores into a box of one's own -/
theorem box3 {w W V : World} {a b c : Value} {t : TypeId} (h : W.heap[w.heap.size]? = some (.cells #[a, b, c] t (0, 0))) (hB : Below w.heap.size w W) (hV : Below W.heap.size W V) (x y z : Value) :
    ∃ W2, W2 = ((V.setCell ⟨w.heap.size, 0, none⟩ x).setCell ⟨w.heap.size, 1, none⟩ y).setCell ⟨w.heap.size, 2, none⟩ z ∧ W2.cell? ⟨w.heap.size, 0, none⟩ = some x ∧ W2.cell? ⟨w.heap.size, 1, none⟩ = some y ∧ W2.cell? ⟨w.heap.size, 2, none⟩ = some z ∧ Below w.heap.size w W2 := by
  have hk : V.heap[w.heap.size]? = some (.cells #[a, b, c] t (0, 0)) := (hV.block _ (Array.getElem?_eq_some_iff.1 h).1).trans h
  obtain ⟨d0, d1, d2⟩ := cells3 (st3 hk x y z)
  exact ⟨_, rfl, d0, d1, d2, (((hB.trans (hV.mono hB.size)).setCell (Nat.le_refl _) _).setCell (Nat.le_refl _) _).setCell (Nat.le_refl _) _⟩
def vb (x : Ver) (b : Bool) : Value := .tuple #[aggV x, .bool b]
/-- the last one -/
def lastB (l : List Ver) : Bool := decide (0 < l.length)
def lastV (l : List Ver) : Ver := l.getD (l.length - 1) zeroV
set_option maxRecDepth 100000 in
set_option maxHeartbeats 2000000 in
theorem Last_c (B c N : Nat) (gb : Option Nat) (l : List Ver) (w : World) (h : IsCh B c N gb l w) (hN : N ≤ 1000000) :
    Calls Try.prog 60 #[.pointer (some ⟨c, 0, none⟩)] w fun e w' => e = .returned (vb (lastV l) (lastB l)) ∧ Below w.heap.size w w' := by
  obtain ⟨W0, hW0, hk0, hb0⟩ : ∃ W0, W0 = w.alloc (.cells #[.int .i64 0, .string ⟨#[]⟩, .bool false] 78) ∧ W0.heap[w.heap.size]? = some (.cells #[.int .i64 0, .string ⟨#[]⟩, .bool false] 78 (0, 0)) ∧ Below w.heap.size w W0 := ⟨_, rfl, heap_alloc_new w _, (Below.refl _ _).alloc (Nat.le_refl _) _⟩
  have hlt0 : w.heap.size < W0.heap.size := (Array.getElem?_eq_some_iff.1 hk0).1
  have HK := Lib.hid (kept_c B c N gb l W0 (h.go hb0) hN)
  have hl := h.le
  have HW0 := Lib.hid hW0
  have HB0 := Lib.hid hb0
  have c0 := cell_of_row _ _ 0 _ _ _ hk0
  have c1 := cell_of_row _ _ 1 _ _ _ hk0
  have c2 := cell_of_row _ _ 2 _ _ _ hk0
  simp at c0 c1 c2
  have f0 := frz hk0 0
  have f1 := frz hk0 1
  have f2 := frz hk0 2
  have HK0 := Lib.hid hk0
  clear h hW0 hb0 hk0
  by_cases hp : 0 < l.length
  · obtain ⟨m, hm⟩ : ∃ m, m = l.length - 1 := ⟨_, rfl⟩
    have hml : m < l.length := by omega
    have HL : Hid (lastV l = l[m]) := by show _ = _; unfold lastV; rw [← hm, getD_at hml]
    have HLB : Hid (lastB l = true) := by show _ = _; unfold lastB; simpa using hp
    have e1 : ((l.length : Int) - 1).toNat = m := by omega
    have e2 : (0 : Int) ≤ (l.length : Int) - 1 := by omega
    have e3 : (1 : Int) ≤ (l.length : Int) := by omega
    have e4 : (l.length : Int) - 1 < (l.length : Int) := by omega
    have e5 : ¬ (l.length : Int) = 0 := by omega
    rw [HL.out, HLB.out]
    clear hm
    go_enter Try.func60, Try.ntmps60
    go_wp2_with fail
    rw [← HW0.out]
    refine HK.out.mono ?_
    rintro e w' ⟨ao, cap, rfl, hR, n, rfl⟩
    obtain ⟨g, off, rfl, hg, hat⟩ := rdv_at hR hp
    obtain ⟨p0, p1, p2⟩ := hat m hml
    have HBX := Lib.hid (box3 HK0.out HB0.out (bdrN W0 n) (.int .i64 l[m].1) (.string l[m].2.1) (.bool l[m].2.2))
    clear hat hR HL HLB
    go_wp2
    obtain ⟨W2, hW2, d0, d1, d2, hb2⟩ := HBX.out
    rw [← hW2]
    exact bodyPost_ret (v := vb l[m] true) (by simp [results, Try.results60, go_sem, d0, d1, d2, vb, aggV]) rfl ⟨rfl, hb2⟩
  · have hl0 : l = [] := by
      have : l.length = 0 := by omega
      exact List.eq_nil_of_length_eq_zero this
    subst hl0
    go_enter Try.func60, Try.ntmps60
    go_wp2_with fail
    rw [← HW0.out]
    refine HK.out.mono ?_
    rintro e w' ⟨ao, cap, rfl, hR, n, rfl⟩
    have HBX := Lib.hid (box3 HK0.out HB0.out (bdrN W0 n) (.int .i64 0) (.string ⟨#[]⟩) (.bool false))
    go_wp2
    obtain ⟨W2, hW2, d0, d1, d2, hb2⟩ := HBX.out
    rw [← hW2]
    exact bodyPost_ret (v := vb zeroV false) (by simp [results, Try.results60, go_sem, d0, d1, d2, vb, aggV, zeroV]; rfl) rfl ⟨rfl, hb2⟩
set_option maxRecDepth 100000 in
set_option maxHeartbeats 2000000 in
theorem At_c (B c N : Nat) (gb : Option Nat) (l : List Ver) (rev : Int) (w : World) (h : IsCh B c N gb l w) (hN : N ≤ 1000000) (ha : Asc l) :
    Calls Try.prog 32 #[.pointer (some ⟨c, 0, none⟩), .int .i64 rev] w fun e w' => e = .returned (vb (atV l rev) (atB l rev)) ∧ Below w.heap.size w w' := by
  obtain ⟨W0, hW0, hk0, hb0⟩ : ∃ W0, W0 = w.alloc (.cells #[.int .i64 0, .string ⟨#[]⟩, .bool false] 78) ∧ W0.heap[w.heap.size]? = some (.cells #[.int .i64 0, .string ⟨#[]⟩, .bool false] 78 (0, 0)) ∧ Below w.heap.size w W0 := ⟨_, rfl, heap_alloc_new w _, (Below.refl _ _).alloc (Nat.le_refl _) _⟩
  have hlt0 : w.heap.size < W0.heap.size := (Array.getElem?_eq_some_iff.1 hk0).1
  have HK := Lib.hid (kept_c B c N gb l W0 (h.go hb0) hN)
  have hl := h.le
  have HU := Lib.hid (fun ao cap n hR => upTo_c ao cap l rev (W0.drewN n) hR ha (by omega))
  have hcl := cnt_le l rev
  have HW0 := Lib.hid hW0
  have HB0 := Lib.hid hb0
  have HK0 := Lib.hid hk0
  clear h hW0 hb0 hk0 ha
  by_cases h0 : cnt l rev = 0
  · have HL : Hid (atB l rev = false) := by show _ = _; unfold atB; rw [h0]; rfl
    have HV : Hid (atV l rev = zeroV) := by show _ = _; unfold atV; rw [HL.out]; rfl
    rw [HL.out, HV.out]
    rw [h0] at HU
    clear h0 hcl HL HV
    go_enter Try.func32, Try.ntmps32
    go_wp2_with fail
    rw [← HW0.out]
    refine HK.out.mono ?_
    rintro e w' ⟨ao, cap, rfl, hR, n, rfl⟩
    have HR := Lib.hid (hR.go (bdrN W0 n))
    clear hR
    go_wp2_with fail
    refine (HU.out ao cap n HR.out).mono ?_
    rintro e w2 ⟨rfl, hb⟩
    have HB2 : Hid (Below W0.heap.size W0 w2) := (bdrN W0 n).trans hb
    have hk2 := (HB2.out.block _ hlt0).trans HK0.out
    have f0 := frz hk2 0
    have f1 := frz hk2 1
    have f2 := frz hk2 2
    obtain ⟨c0, c1, c2⟩ := cells3 hk2
    have HBX := Lib.hid (box3 HK0.out HB0.out HB2.out (.int .i64 0) (.string ⟨#[]⟩) (.bool false))
    clear hb hk2
    go_wp2
    obtain ⟨W2, hW2, d0, d1, d2, hb2⟩ := HBX.out
    rw [← hW2]
    exact bodyPost_ret (v := vb zeroV false) (by simp [results, Try.results32, go_sem, d0, d1, d2, vb, aggV, zeroV]; rfl) rfl ⟨rfl, hb2⟩
  · obtain ⟨m, hm⟩ : ∃ m, cnt l rev = m + 1 := ⟨cnt l rev - 1, by omega⟩
    have hml : m < l.length := by omega
    have hga : goneAt l (cnt l rev - 1) = l[m].2.2 := by rw [hm, show m + 1 - 1 = m by omega, gone_at hml]
    have HL : Hid (atB l rev = !l[m].2.2) := by show _ = _; unfold atB; rw [hga, decide_eq_true (by omega), Bool.true_and]
    have HG : Hid (l.getD (cnt l rev - 1) zeroV = l[m]) := by show _ = _; rw [hm, show m + 1 - 1 = m by omega, getD_at hml]
    rw [hm] at HU
    rw [show ((m + 1 : Nat) : Int) = (m : Int) + 1 by omega] at HU
    have hm0 : (0 : Int) ≤ (m : Int) := by omega
    have hmi : (m : Int) < (l.length : Int) := by omega
    clear h0 hcl hm hga
    cases hgn : l[m].2.2 with
    | true =>
      rw [hgn] at HL
      have HV : Hid (atV l rev = zeroV) := by show _ = _; unfold atV; rw [HL.out]; rfl
      rw [HL.out, HV.out]
      have HGN := Lib.hid hgn
      clear hgn HL HV HG
      go_enter Try.func32, Try.ntmps32
      go_wp2_with fail
      rw [← HW0.out]
      refine HK.out.mono ?_
      rintro e w' ⟨ao, cap, rfl, hR, n, rfl⟩
      have HR := Lib.hid (hR.go (bdrN W0 n))
      clear hR
      go_wp2_with fail
      refine (HU.out ao cap n HR.out).mono ?_
      rintro e w2 ⟨rfl, hb⟩
      have HB2 : Hid (Below W0.heap.size W0 w2) := (bdrN W0 n).trans hb
      have hk2 := (HB2.out.block _ hlt0).trans HK0.out
      have f0 := frz hk2 0
      have f1 := frz hk2 1
      have f2 := frz hk2 2
      obtain ⟨c0, c1, c2⟩ := cells3 hk2
      have HBX := Lib.hid (box3 HK0.out HB0.out HB2.out (.int .i64 0) (.string ⟨#[]⟩) (.bool false))
      obtain ⟨g, off, rfl, hg, hat⟩ := rdv_at (HR.out.go hb) (by omega)
      obtain ⟨p0, p1, p2⟩ := hat m hml
      rw [HGN.out] at p2
      clear hb hk2 hat p0 p1 HGN
      go_wp2
      obtain ⟨W2, hW2, d0, d1, d2, hb2⟩ := HBX.out
      rw [← hW2]
      exact bodyPost_ret (v := vb zeroV false) (by simp [results, Try.results32, go_sem, d0, d1, d2, vb, aggV, zeroV]; rfl) rfl ⟨rfl, hb2⟩
    | false =>
      rw [hgn] at HL
      have HV : Hid (atV l rev = l[m]) := by show _ = _; unfold atV; rw [HL.out, HG.out]; rfl
      rw [HL.out, HV.out]
      have HGN := Lib.hid hgn
      clear hgn HL HV HG
      go_enter Try.func32, Try.ntmps32
      go_wp2_with fail
      rw [← HW0.out]
      refine HK.out.mono ?_
      rintro e w' ⟨ao, cap, rfl, hR, n, rfl⟩
      have HR := Lib.hid (hR.go (bdrN W0 n))
      clear hR
      go_wp2_with fail
      refine (HU.out ao cap n HR.out).mono ?_
      rintro e w2 ⟨rfl, hb⟩
      have HB2 : Hid (Below W0.heap.size W0 w2) := (bdrN W0 n).trans hb
      have hk2 := (HB2.out.block _ hlt0).trans HK0.out
      have f0 := frz hk2 0
      have f1 := frz hk2 1
      have f2 := frz hk2 2
      obtain ⟨c0, c1, c2⟩ := cells3 hk2
      have HBX := Lib.hid (box3 HK0.out HB0.out HB2.out (.int .i64 l[m].1) (.string l[m].2.1) (.bool false))
      obtain ⟨g, off, rfl, hg, hat⟩ := rdv_at (HR.out.go hb) (by omega)
      obtain ⟨p0, p1, p2⟩ := hat m hml
      rw [HGN.out] at p2
      clear hb hk2 hat
      go_wp2
      obtain ⟨W2, hW2, d0, d1, d2, hb2⟩ := HBX.out
      rw [← hW2]
      exact bodyPost_ret (v := vb l[m] true) (by simp [results, Try.results32, go_sem, d0, d1, d2, vb, aggV, HGN.out]) rfl ⟨rfl, hb2⟩
end Go.Proofs.Ythioghbifpphiaa.Cn
