/- The contract of the statements' same: two rows of the same pairs, of the call's own; no other condition. -/
import Derived.Test.YtflhapnanhbcgaaDoorPcAwake
namespace Go.Proofs.YtflhapnanhbcgaaDoor.Pc
open Go.RowKit Jt
set_option linter.unusedSimpArgs false
set_option linter.unusedVariables false

theorem prC_at : ∀ (ps : List PairL) (k : Nat) (hk : k < ps.length), (prC ps)[k * 2]? = some (.string (mkS ps[k].1)) ∧ (prC ps)[k * 2 + 1]? = some (.string (mkS ps[k].2))
  | [], k, hk => by simp at hk
  | x :: ps, 0, _ => ⟨rfl, rfl⟩
  | x :: ps, k + 1, hk => by
    have ih := prC_at ps k (by simpa using hk)
    have e : prC (x :: ps) = .string (mkS x.1) :: .string (mkS x.2) :: prC ps := rfl
    rw [e, show (k + 1) * 2 = k * 2 + 2 by omega]
    exact ih
theorem own_len {T : TypeId} {B k n : Nat} {v : Value} {xs : List Value} {w : World} (h : w.ownsRow B T k v n xs) : ∃ ao cap, v = .slice ao n cap := by
  rcases h.2 with ⟨rfl, h0⟩ | ⟨g, cap, cur, rfl, _⟩
  · exact ⟨_, 0, by rw [h0]⟩
  · exact ⟨_, _, rfl⟩
theorem owp_at {T : TypeId} {B : Nat} {v : Value} {ps : List PairL} {w : World} (h : OwP T B v ps w) (hn : 0 < ps.length) : ∃ g cap, v = .slice (some ⟨g, 0, none⟩) ps.length cap ∧ g < w.heap.size ∧ ps.length ≤ cap ∧ ∀ i (hi : i < ps.length), w.cell? ⟨g, i * 2, none⟩ = some (.string (mkS ps[i].1)) ∧ w.cell? ⟨g, i * 2 + 1, none⟩ = some (.string (mkS ps[i].2)) := by
  rcases h.2 with ⟨rfl, h0⟩ | ⟨g, cap, cur, rfl, hB, hg, hc, hcm, hsz, htk⟩
  · omega
  · refine ⟨g, cap, rfl, (Array.getElem?_eq_some_iff.1 hg).1, hc, fun i hi => ?_⟩
    have hl := prC_len ps
    rw [cell_of_row _ _ _ _ _ _ hg, cell_of_row _ _ _ _ _ _ hg]
    have hp := prC_at ps i hi
    rw [← htk, List.getElem?_take_of_lt (by omega), List.getElem?_take_of_lt (by omega), Array.getElem?_toList, Array.getElem?_toList] at hp
    exact hp
set_option maxRecDepth 100000 in
set_option maxHeartbeats 8000000 in
theorem same_c (va vb : Value) (ps : List PairL) (B1 B2 : Nat) (w : World) (h1 : OwP 28 B1 va ps w) (h2 : OwP 27 B2 vb ps w) (hm : ps.length ≤ 50000) :
    Calls Tryd.prog 8 #[va, vb] w fun e w' => e = .returned (.bool true) ∧ Below w.heap.size w w' := by
  have HO1 := Lib.hid h1
  have HO2 := Lib.hid h2
  obtain ⟨ao1, cap1, hv1⟩ := own_len h1
  obtain ⟨ao2, cap2, hv2⟩ := own_len h2
  subst hv1 hv2
  clear h1 h2
  have hs := stood
  go_enter Tryd.func8, Tryd.ntmps8
  go_wp2
  go_loopw [14] (fun v wr => ∃ j : Nat, j ≤ ps.length ∧ v = .int .i64 j ∧ Below w.heap.size w wr) (fun v _ => ps.length - (intOf v).toNat)
  case atStart => exact ⟨0, by omega, rfl, Below.refl _ _⟩
  case round =>
    obtain ⟨j, hj, rfl, hB⟩ := hrel
    by_cases hlt : j < ps.length
    · obtain ⟨g1, c1, e1, hg1, hc1, hat1⟩ := owp_at HO1.out (by omega)
      obtain ⟨g2, c2, e2, hg2, hc2, hat2⟩ := owp_at HO2.out (by omega)
      injection e1 with e1a e1b e1c
      injection e2 with e2a e2b e2c
      subst e1a e2a e1c e2c
      have p0 : wr.cell? ⟨g1, j * 2, none⟩ = some (.string (mkS ps[j].1)) := (hB.cell (p := ⟨g1, j * 2, none⟩) hg1).trans (hat1 j hlt).1
      have p1 : wr.cell? ⟨g1, j * 2 + 1, none⟩ = some (.string (mkS ps[j].2)) := (hB.cell (p := ⟨g1, j * 2 + 1, none⟩) hg1).trans (hat1 j hlt).2
      have r0 : wr.cell? ⟨g2, j * 2, none⟩ = some (.string (mkS ps[j].1)) := (hB.cell (p := ⟨g2, j * 2, none⟩) hg2).trans (hat2 j hlt).1
      have r1 : wr.cell? ⟨g2, j * 2 + 1, none⟩ = some (.string (mkS ps[j].2)) := (hB.cell (p := ⟨g2, j * 2 + 1, none⟩) hg2).trans (hat2 j hlt).2
      have hn1 : g1 ≠ wr.heap.size := by have := hB.size; omega
      have hl1 : g1 < wr.heap.size := by have := hB.size; omega
      have HB := Lib.hid hB
      clear hB hat1 hat2
      revert p0 p1 r0 r1
      generalize mkS ps[j].1 = x
      generalize mkS ps[j].2 = y
      intro p0 p1 r0 r1
      have hj0 : (0 : Int) ≤ (j : Int) := by omega
      have hjl : (j : Int) < (ps.length : Int) := by omega
      go_wp2
      go_quiet (fail)
      go_wp2
      go_roundw
      case rel =>
        refine ⟨j + 1, by omega, by go_num, ?_⟩
        have hsz := HB.out.size
        first | exact (bdrw (HB.out.alloc hsz _) _) | exact (HB.out.alloc hsz _).drew | exact ((bdrw (HB.out.alloc hsz _) _)) | exact (bdrw (((HB.out.alloc hsz _).setCell (by exact hsz) _).setCell (by exact hsz) _) _) | (clear HB hsz p0 p1 r0 r1 HO1 HO2; exact sorryHere)
      case measure => simp [intOf]; omega
    · have HB := Lib.hid hB
      clear hB
      go_wp2
      go_ret
      exact ⟨rfl, HB.out⟩
end Go.Proofs.YtflhapnanhbcgaaDoor.Pc
