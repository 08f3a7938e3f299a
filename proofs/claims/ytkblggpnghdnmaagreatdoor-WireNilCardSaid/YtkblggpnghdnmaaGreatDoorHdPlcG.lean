/- The contract of package head's places at one name: for every row of at most a thousand fields whose names have at most a thousand bytes. -/
import Derived.Test.YtkblggpnghdnmaaGreatDoorHdFirG
namespace Go.Proofs.YtkblggpnghdnmaaGreatDoor.Hd
open Go.RowKit Ch
set_option linter.unusedSimpArgs false
set_option linter.unusedVariables false

theorem flC_len (fs : List FldL) : (flC fs).length = fs.length * 2 := by
  induction fs with
  | nil => rfl
  | cons x fs ih => have e : flC (x :: fs) = .string (mkS x.1) :: .string (mkS x.2) :: flC fs := rfl; rw [e, List.length_cons, List.length_cons, List.length_cons, ih]; omega
theorem flC_at : ∀ (fs : List FldL) (k : Nat) (hk : k < fs.length), (flC fs)[k * 2]? = some (.string (mkS fs[k].1)) ∧ (flC fs)[k * 2 + 1]? = some (.string (mkS fs[k].2))
  | [], k, hk => by simp at hk
  | x :: fs, 0, _ => ⟨rfl, rfl⟩
  | x :: fs, k + 1, hk => by
    have ih := flC_at fs k (by simpa using hk)
    have e : flC (x :: fs) = .string (mkS x.1) :: .string (mkS x.2) :: flC fs := rfl
    rw [e, show (k + 1) * 2 = k * 2 + 2 by omega]
    exact ih
theorem owl_at {B : Nat} {v : Value} {fs : List FldL} {w : World} (h : OwL B v fs w) (hn : 0 < fs.length) : ∃ g cap, v = .slice (some ⟨g, 0, none⟩) fs.length cap ∧ g < w.heap.size ∧ B ≤ g ∧ fs.length ≤ cap ∧ ∀ i (hi : i < fs.length), w.cell? ⟨g, i * 2, none⟩ = some (.string (mkS fs[i].1)) ∧ w.cell? ⟨g, i * 2 + 1, none⟩ = some (.string (mkS fs[i].2)) := by
  rcases h.2 with ⟨rfl, h0⟩ | ⟨g, cap, cur, rfl, hB, hg, hc, hcm, hsz, htk⟩
  · omega
  · refine ⟨g, cap, rfl, (Array.getElem?_eq_some_iff.1 hg).1, hB, hc, fun i hi => ?_⟩
    have hl := flC_len fs
    rw [cell_of_row _ _ _ _ _ _ hg, cell_of_row _ _ _ _ _ _ hg]
    have hp := flC_at fs i hi
    rw [← htk, List.getElem?_take_of_lt (by omega), List.getElem?_take_of_lt (by omega), Array.getElem?_toList, Array.getElem?_toList] at hp
    exact hp
/-- how many fields have this name -/
def cntL (nm : List UInt8) (fs : List FldL) : Nat := (fs.filter fun x => decide (lowL x.1 = lowL nm)).length
theorem cnt_le (nm : List UInt8) (fs : List FldL) : cntL nm fs ≤ fs.length := List.length_filter_le _ _
theorem cnt_step {nm : List UInt8} {fs : List FldL} {i : Nat} (hi : i < fs.length) : cntL nm (fs.take (i + 1)) = cntL nm (fs.take i) + (if decide (lowL fs[i].1 = lowL nm) = true then 1 else 0) := by
  unfold cntL
  rw [List.take_succ_eq_append_getElem hi, List.filter_append, List.length_append]
  congr 1
  by_cases h : lowL fs[i].1 = lowL nm <;> simp [h]
def OwI (B : Nat) (v : Value) (n : Nat) (w : World) : Prop := ∃ xs, w.ownsRow B 3 1 v n xs
theorem OwI.go {B : Nat} {v : Value} {n : Nat} {w w' : World} (h : OwI B v n w) (hb : Below w.heap.size w w') : OwI B v n w' := by
  obtain ⟨xs, h⟩ := h
  exact ⟨xs, World.ownsRow.kept h (row := none) ⟨hb.os, hb.tape, hb.output, hb.size, fun k hk _ => hb.block k hk⟩ (by cases hv : v.ownBlock <;> simp)⟩
set_option maxRecDepth 100000 in
set_option maxHeartbeats 8000000 in
theorem places_g (nm a1 a2 : ByteArray) (mn : Int) (v : Value) (fs : List FldL) (q B : Nat) (w : World) (hO : OwL B v fs w) (hm : fs.length ≤ 2000) (hf : ∀ x ∈ fs, x.1.length ≤ 1000) (hnm : nm.size ≤ 1000) (hq : q < w.heap.size) (q0 : w.cell? ⟨q, 0, none⟩ = some (.string nm)) :
    Calls Tryz.prog 28 #[.agg #[.string a1, .string a2, .int .i64 mn, v], .slice (some ⟨q, 0, none⟩) 1 1] w fun e w' => ∃ ao cp, e = .returned (.slice ao (cntL nm.data.toList fs) cp) ∧ Below w.heap.size w w' := by
  obtain ⟨i0, hi, hz0, hz1, hz2⟩ := info_parts infoI
  have HO := Lib.hid hO
  have HF := Lib.hid hf
  obtain ⟨ao, cp, hv⟩ := own_len hO
  subst hv
  clear hO hf
  have HB0 : Hid (Below w.heap.size w (w.alloc (.cells #[.string a1, .string a2, .int .i64 mn, .slice ao fs.length cp] 35))) := (Below.refl _ _).alloc (Nat.le_refl _) _
  have HQ0 : Hid ((w.alloc (.cells #[.string a1, .string a2, .int .i64 mn, .slice ao fs.length cp] 35)).cell? ⟨q, 0, none⟩ = some (.string nm)) := (HB0.out.cell (p := ⟨q, 0, none⟩) hq).trans q0
  have HO0 := Lib.hid (HO.out.go HB0.out)
  have hq0 : q < (w.alloc (.cells #[.string a1, .string a2, .int .i64 mn, .slice ao fs.length cp] 35)).heap.size := Nat.lt_of_lt_of_le hq HB0.out.size
  clear HO q0
  go_enter Tryz.func28, Tryz.ntmps28
  go_wp2
  generalize w.alloc (.cells #[.string a1, .string a2, .int .i64 mn, .slice ao fs.length cp] 35) = W0 at HB0 HQ0 HO0 hq0 ⊢
  go_loopw [5, 13] (fun v i wr => ∃ j : Nat, j ≤ fs.length ∧ i = .int .i64 j ∧ OwI W0.heap.size v (cntL nm.data.toList (fs.take j)) wr ∧ Below W0.heap.size W0 wr) (fun _ i _ => fs.length - (intOf i).toNat)
  case atStart => exact ⟨0, by omega, rfl, ⟨[], World.ownsRow_nil _ _ _ _⟩, Below.refl _ _⟩
  case round =>
    obtain ⟨j, hj, rfl, hI, hB⟩ := hrel
    have HI := Lib.hid hI
    have HB := Lib.hid hB
    have hsz := hB.size
    obtain ⟨xs, hI2⟩ := hI
    obtain ⟨ai, ci, hv⟩ := own_len hI2
    subst hv
    clear hI2
    by_cases hlt : j < fs.length
    · obtain ⟨f, c1, e1, hfl, _, hc1, hat⟩ := owl_at HO0.out (by omega)
      injection e1 with e1a e1b e1c
      subst e1a e1c
      have p0 : wr.cell? ⟨f, j * 2, none⟩ = some (.string (mkS fs[j].1)) := (hB.cell (p := ⟨f, j * 2, none⟩) hfl).trans (hat j hlt).1
      have p1 : wr.cell? ⟨f, j * 2 + 1, none⟩ = some (.string (mkS fs[j].2)) := (hB.cell (p := ⟨f, j * 2 + 1, none⟩) hfl).trans (hat j hlt).2
      have q1 : wr.cell? ⟨q, 0, none⟩ = some (.string nm) := (hB.cell (p := ⟨q, 0, none⟩) hq0).trans HQ0.out
      have hnq : q ≠ wr.heap.size := by omega
      have hlq : q < wr.heap.size := by omega
      have hj0 : (0 : Int) ≤ (j : Int) := by omega
      have hjl : (j : Int) < (fs.length : Int) := by omega
      have HSM := Lib.hid (fun W => same_c (mkS fs[j].1) nm W (by rw [size_mkS]; exact HF.out _ (List.getElem_mem hlt)) hnm)
      rw [data_mkS] at HSM
      have hcs := cnt_step (nm := nm.data.toList) hlt
      have hcl := cnt_le nm.data.toList (fs.take j)
      rw [List.length_take] at hcl
      generalize hcj : cntL nm.data.toList (fs.take j) = cj at *
      have HCJ := Lib.hid hcj
      clear hcj hB hat
      revert p0 p1 HSM hcs
      generalize decide (lowL fs[j].1 = lowL nm.data.toList) = sm
      generalize mkS fs[j].1 = ya
      generalize mkS fs[j].2 = yb
      intro p0 p1 HSM hcs
      have HCS := Lib.hid hcs
      clear hcs
      have HB1 : Hid (Below wr.heap.size wr (wr.alloc (.cells #[.string ya, .string yb] 86))) := (Below.refl _ _).alloc (Nat.le_refl _) _
      cases sm with
      | false =>
        go_wp2
        refine wp_loop_rounds 2 ?_
        rw [rounds_succ]
        go_wp2_with fail
        refine (HSM.out _).mono ?_
        rintro e w2 ⟨rfl, hb2⟩
        have hb3 : Below wr.heap.size wr w2 := HB1.out.trans (hb2.mono HB1.out.size)
        have HB3 : Hid (Below W0.heap.size W0 w2) := HB.out.trans (hb3.mono hsz)
        have HI3 := Lib.hid (HI.out.go hb3)
        clear hb2 hb3
        go_wp2_with fail
        rw [rounds_succ]
        go_wp2
        go_roundw
        case rel => exact ⟨j + 1, by omega, by go_num, by rw [HCS.out]; exact HI3.out, HB3.out⟩
        case measure => simp [intOf]; omega
      | true =>
        go_wp2
        refine wp_loop_rounds 1 ?_
        rw [rounds_succ]
        go_wp2_with fail
        refine (HSM.out _).mono ?_
        rintro e w2 ⟨rfl, hb2⟩
        have hb3 : Below wr.heap.size wr w2 := HB1.out.trans (hb2.mono HB1.out.size)
        have HD : Hid (∃ W2, W2 = w2.alloc (.cells #[.int .i64 (j : Int)] 3) ∧ W2.heap[w2.heap.size]? = some (.cells #[.int .i64 (j : Int)] 3 (0, 0)) ∧ Below wr.heap.size wr W2) := ⟨_, rfl, heap_alloc_new w2 _, hb3.alloc hb3.size _⟩
        obtain ⟨W2, hW2, hk3, hbW⟩ := HD.out
        have HK3 := Lib.hid hk3
        have HW2 := Lib.hid hW2
        have HBW : Hid (Below W0.heap.size W0 W2) := HB.out.trans (hbW.mono hsz)
        have HIW := Lib.hid (HI.out.go hbW)
        obtain ⟨ys, hIW⟩ := HIW.out
        have HIR := Lib.hid hIW
        clear HD hk3 hW2 hbW hb2 hb3 hIW
        go_wp2_with (at_builtin; rw [← HW2.out]; refine wpList_append_own _ rfl _ _ 67 rfl W0.heap.size 3 i0 _ 1 8 Tryz.underlying67 hi hz0 hz1 hz2 rfl (by decide) _ _ _ rfl HIR.out ⟨w2.heap.size, 0, none⟩ 1 1 [.int .i64 (j : Int)] rfl rfl ?c1 ?c2 ?c3 ?c4 ?c5 ?_)
        case c1 =>
          intro i v hv
          match i, hv with
          | 0, hv =>
            have ea : (⟨w2.heap.size, 0, none⟩ : Addr).add 0 = ⟨w2.heap.size, 0, none⟩ := by unfold Addr.add; split <;> simp_all
            rw [ea, cell_of_row _ _ 0 _ _ _ HK3.out]; exact hv
        case c2 => intro v hv; simp at hv; subst hv; rfl
        case c3 => unfold maxLen; omega
        case c4 => omega
        case c5 => exact HBW.out.size
        intro v' w5 hown' hgrow _
        have HB5 : Hid (Below W0.heap.size W0 w5) := HBW.out.grown hgrow HBW.out.size (fun k hk => (HIR.out.lt k hk).1)
        have HI5 : Hid (OwI W0.heap.size v' (cj + 1) w5) := ⟨_, hown'⟩
        clear hown' hgrow
        go_wp2
        go_roundw
        case rel => exact ⟨j + 1, by omega, by go_num, by rw [HCS.out]; exact HI5.out, HB5.out⟩
        case measure => simp [intOf]; omega
    · have hB2 : Below w.heap.size w wr := HB0.out.trans (hB.mono HB0.out.size)
      have HB2 := Lib.hid hB2
      have hcj : cntL nm.data.toList (fs.take j) = cntL nm.data.toList fs := by rw [List.take_of_length_le (by omega)]
      have HCJ := Lib.hid hcj
      clear hB hB2 hcj
      generalize cntL nm.data.toList (fs.take j) = cj at *
      go_wp2
      go_ret
      exact ⟨ai, ci, by rw [← HCJ.out]; rfl, HB2.out⟩
end Go.Proofs.YtkblggpnghdnmaaGreatDoor.Hd
