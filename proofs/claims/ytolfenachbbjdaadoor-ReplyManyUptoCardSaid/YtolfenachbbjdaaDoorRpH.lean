/- Contracts of the law's own small functions cut and Ours: for every reply whose fields have at most two million bytes each. -/
import Derived.Test.YtolfenachbbjdaaDoorRpG
namespace Go.Proofs.YtolfenachbbjdaaDoor.Rp
open Go.RowKit Ch Hd
set_option linter.unusedSimpArgs false
set_option linter.unusedVariables false

theorem set_ne {w : World} {g h : Nat} {o : Option Obj} (hb : w.heap[h]? = o) (hn : ¬ g = h) (j : Nat) (v : Value) : (w.setCell ⟨g, j, none⟩ v).heap[h]? = o := by
  simp [World.setCell, Array.getElem?_modify, hn, hb]
theorem gb_refl (w : World) (r : Option Nat) : w.grownBy w r := ⟨rfl, rfl, rfl, Nat.le_refl _, fun _ _ _ => rfl⟩
theorem gb_drew (w : World) (r : Option Nat) : w.grownBy w.drew r := ⟨rfl, rfl, rfl, Nat.le_refl _, fun _ _ _ => rfl⟩
theorem Mx.drew {w : World} (h : Mx w) : Mx w.drew := h
theorem gb_trans {a b c : World} {r : Option Nat} (h : a.grownBy b r) (k : b.grownBy c r) : a.grownBy c r := ⟨k.os.trans h.os, k.tape.trans h.tape, k.output.trans h.output, Nat.le_trans h.size k.size, fun j hj hr => (k.block j (Nat.lt_of_lt_of_le hj h.size) hr).trans (h.block j hj hr)⟩
theorem gb_below {w w' : World} {r : Option Nat} (h : Below w.heap.size w w') : w.grownBy w' r := ⟨h.os, h.tape, h.output, h.size, fun j hj _ => h.block j hj⟩
theorem gb_set (w : World) (g j : Nat) (v : Value) : w.grownBy (w.setCell ⟨g, j, none⟩ v) (some g) := by
  refine ⟨rfl, rfl, rfl, by simp [World.setCell], fun k hk hr => ?_⟩
  exact set_ne rfl (fun e => hr (by rw [e])) j v
theorem gb_belowB {B g : Nat} {a w w' : World} (h : Below B a w) (hg : w.grownBy w' (some g)) (hB : B ≤ w.heap.size) (hBg : B ≤ g) : Below B a w' := h.grown hg hB (fun k hk => by injection hk with e; omega)
theorem Mx.gb {w w' : World} {g : Nat} (h : Mx w) (hb : w.grownBy w' (some g)) (hg : g ≠ 0) : Mx w' := by
  have hl := h.lt
  obtain ⟨m, h⟩ := h
  exact ⟨m, (World.cell?_of_block (hb.block _ hl (fun e => hg (by injection e with e; exact e.symm)))).trans h⟩
def flB (fs : List FB) : List Value := fs.flatMap fun x => [.string x.1, .string x.2]
theorem flB_snoc (fs : List FB) (x : FB) : flB (fs ++ [x]) = flB fs ++ [.string x.1, .string x.2] := by unfold flB; rw [List.flatMap_append, List.flatMap_singleton]
theorem flB_len (fs : List FB) : (flB fs).length = fs.length * 2 := by
  induction fs with
  | nil => rfl
  | cons x r ih => show (_ :: _ :: flB r).length = _; simp [ih]; omega
theorem flB_at : ∀ (fs : List FB) (k : Nat) (hk : k < fs.length), (flB fs)[k * 2]? = some (.string fs[k].1) ∧ (flB fs)[k * 2 + 1]? = some (.string fs[k].2)
  | [], k, hk => absurd hk (Nat.not_lt_zero _)
  | x :: r, 0, _ => ⟨rfl, rfl⟩
  | x :: r, k + 1, hk => by
    have h := flB_at r k (by simpa using hk)
    have e : (k + 1) * 2 = k * 2 + 2 := by omega
    rw [e]
    exact h
/-- a slice of fields of the call's own, of either kind -/
def OwF (T : TypeId) (B : Nat) (v : Value) (fs : List FB) (w : World) : Prop := w.ownsRow B T 2 v fs.length (flB fs)
theorem OwF.go {T : TypeId} {B : Nat} {v : Value} {fs : List FB} {w w' : World} (h : OwF T B v fs w) (hb : Below w.heap.size w w') : OwF T B v fs w' :=
  World.ownsRow.kept h (row := none) ⟨hb.os, hb.tape, hb.output, hb.size, fun k hk _ => hb.block k hk⟩ (by cases hv : v.ownBlock <;> simp)
theorem OwF.gb {T : TypeId} {B : Nat} {v : Value} {fs : List FB} {g : Nat} {w w' : World} (h : OwF T B v fs w) (hb : w.grownBy w' (some g)) (hg : g < B) : OwF T B v fs w' := by
  refine World.ownsRow.kept h (row := some g) hb (Or.inr (fun e => ?_))
  have := h.lt g e
  omega
theorem OwF.mono {T : TypeId} {B B' : Nat} {v : Value} {fs : List FB} {w : World} (h : OwF T B v fs w) (hB : B' ≤ B) : OwF T B' v fs w := World.ownsRow.mono h hB
theorem own_len {T : TypeId} {B k n : Nat} {v : Value} {xs : List Value} {w : World} (h : w.ownsRow B T k v n xs) : ∃ ao cap, v = .slice ao n cap := by
  rcases h.2 with ⟨rfl, h0⟩ | ⟨g, cap, cur, rfl, _⟩
  · exact ⟨_, 0, by rw [h0]⟩
  · exact ⟨_, _, rfl⟩
theorem OwF.rd {T : TypeId} {B : Nat} {v : Value} {fs : List FB} {w : World} (h : OwF T B v fs w) : RdF v fs w := by
  rcases h.2 with ⟨rfl, h0⟩ | ⟨g, cap, cur, rfl, hB, hg, hc, hcm, hsz, htk⟩
  · exact ⟨none, 0, by rw [h0], fun hh => by omega⟩
  · refine ⟨_, _, rfl, fun _ => ⟨g, 0, rfl, (Array.getElem?_eq_some_iff.1 hg).1, fun i hi => ?_⟩⟩
    have hl := flB_len fs
    rw [Nat.zero_add, cell_of_row _ _ _ _ _ _ hg, cell_of_row _ _ _ _ _ _ hg]
    have hp := flB_at fs i hi
    rw [← htk, List.getElem?_take_of_lt (by omega), List.getElem?_take_of_lt (by omega), Array.getElem?_toList, Array.getElem?_toList] at hp
    exact hp
theorem infoF : (Tryd.prog.info? 61).map (fun i => (i.zero, i.size, i.bytes)) = some (some (.agg #[.string ⟨#[]⟩, .string ⟨#[]⟩]), 2, 32) := by kernel_rfl
theorem infoR : (Tryd.prog.info? 64).map (fun i => (i.zero, i.size, i.bytes)) = some (some (.agg #[.string ⟨#[]⟩, .string ⟨#[]⟩]), 2, 32) := by kernel_rfl
set_option maxRecDepth 100000 in
set_option maxHeartbeats 8000000 in
theorem Ours_c (n : Int) (v0 : Value) (fs : List FB) (body : ByteArray) (w : World) (hR : RdF v0 fs w) (hm : fs.length ≤ 2000) :
    Calls Tryd.prog 10 #[.agg #[.int .i64 n, v0, .string body]] w fun e w' => ∃ aq cq, e = .returned (.agg #[.int .i64 n, .slice aq fs.length cq, .string body]) ∧ OwF 61 w.heap.size (.slice aq fs.length cq) fs w' ∧ Below w.heap.size w w' := by
  obtain ⟨i0, hi, hz0, hz1, hz2⟩ := info_parts infoF
  have HO := Lib.hid hR
  obtain ⟨ao, cp, rfl, _⟩ := hR
  have HD : Hid (∃ W0, W0 = ((w.alloc (.cells #[.int .i64 n, .slice ao fs.length cp, .string body] 24)).alloc (.cells #[.int .i64 0, .slice none 0 0, .string ⟨#[]⟩] 31)).alloc (.cells #[.int .i64 n, .slice none 0 0, .string body] 31) ∧ W0.heap[w.heap.size + 1]? = some (.cells #[.int .i64 0, .slice none 0 0, .string ⟨#[]⟩] 31 (0, 0)) ∧ W0.heap[w.heap.size + 1 + 1]? = some (.cells #[.int .i64 n, .slice none 0 0, .string body] 31 (0, 0)) ∧ Below w.heap.size w W0 ∧ W0.heap.size = w.heap.size + 1 + 1 + 1) := by
    refine ⟨_, rfl, ?_, ?_, (((Below.refl _ _).alloc (Nat.le_refl _) _).alloc (by simp) _).alloc (by simp; omega) _, by simp⟩
    · have := heap_alloc_new (w.alloc (.cells #[.int .i64 n, .slice ao fs.length cp, .string body] 24)) (.cells #[.int .i64 0, .slice none 0 0, .string ⟨#[]⟩] 31)
      exact heap_old _ (by simpa using this)
    · have := heap_alloc_new ((w.alloc (.cells #[.int .i64 n, .slice ao fs.length cp, .string body] 24)).alloc (.cells #[.int .i64 0, .slice none 0 0, .string ⟨#[]⟩] 31)) (.cells #[.int .i64 n, .slice none 0 0, .string body] 31)
      simpa using this
  obtain ⟨W0, hW0, hR0, hO0, hB0, hz0'⟩ := HD.out
  have HWE := Lib.hid hW0
  have HR0 := Lib.hid hR0
  have HK0 := Lib.hid hO0
  have HB0 := Lib.hid hB0
  have HZ0 := Lib.hid hz0'
  clear HD hW0 hR0 hO0 hB0 hz0'
  go_enter Tryd.func10, Tryd.ntmps10
  go_wp2
  rw [← HWE.out]
  clear HWE
  go_loopw [14] (fun i wr => ∃ (j : Nat) (v : Value), j ≤ fs.length ∧ i = .int .i64 j ∧ wr.heap[w.heap.size + 1 + 1]? = some (.cells #[.int .i64 n, v, .string body] 31 (0, 0)) ∧ OwF 61 (w.heap.size + 1 + 1 + 1) v (fs.take j) wr ∧ W0.grownBy wr (some (w.heap.size + 1 + 1))) (fun i _ => fs.length - (intOf i).toNat)
  case atStart => exact ⟨0, _, by omega, rfl, HK0.out, World.ownsRow_nil _ _ _ _, gb_refl _ _⟩
  case round =>
    obtain ⟨j, v, hj, rfl, hK, hI, hG⟩ := hrel
    have HK := Lib.hid hK
    have HI := Lib.hid hI
    have HG := Lib.hid hG
    have hsz : w.heap.size + 1 + 1 + 1 ≤ wr.heap.size := by have := hG.size; rw [HZ0.out] at this; exact this
    obtain ⟨ai, ci, hv⟩ := own_len hI
    rw [show (fs.take j).length = j by rw [List.length_take]; omega] at hv
    subst hv
    clear hK hI hG
    by_cases hlt : j < fs.length
    · obtain ⟨ao', c1, e1, hc⟩ := HO.out
      injection e1 with e1a e1b e1c
      subst e1a e1c
      obtain ⟨f, off, rfl, hfl, hat⟩ := hc (by omega)
      have hfo : f < W0.heap.size := by rw [HZ0.out]; omega
      have p0 : wr.cell? ⟨f, off + j * 2, none⟩ = some (.string fs[j].1) := (World.cell?_of_block (HG.out.block f hfo (fun e => by injection e with e; omega))).trans ((HB0.out.cell (p := ⟨f, off + j * 2, none⟩) hfl).trans (hat j hlt).1)
      have p1 : wr.cell? ⟨f, off + j * 2 + 1, none⟩ = some (.string fs[j].2) := (World.cell?_of_block (HG.out.block f hfo (fun e => by injection e with e; omega))).trans ((HB0.out.cell (p := ⟨f, off + j * 2 + 1, none⟩) hfl).trans (hat j hlt).2)
      have hsn : fs.take (j + 1) = fs.take j ++ [fs[j]] := List.take_succ_eq_append_getElem hlt
      have HSN : Hid (flB (fs.take (j + 1)) = flB (fs.take j) ++ [.string fs[j].1, .string fs[j].2]) := by show flB _ = _; rw [hsn, flB_snoc]
      have hj0 : (0 : Int) ≤ (j : Int) := by omega
      have hjl : (j : Int) < (fs.length : Int) := by omega
      have hln : (fs.take j).length = j := by rw [List.length_take]; omega
      have HLN : Hid ((fs.take (j + 1)).length = j + 1) := by show _ = _; rw [List.length_take]; omega
      clear hat hsn hc
      revert p0 p1 HSN
      generalize fs[j].1 = ya
      generalize fs[j].2 = yb
      intro p0 p1 HSN
      have HD : Hid (∃ W2, W2 = (wr.alloc (.cells #[.string ya, .string yb] 64)).alloc (.cells #[.string ya, .string yb] 61) ∧ W2.heap[wr.heap.size + 1]? = some (.cells #[.string ya, .string yb] 61 (0, 0)) ∧ Below wr.heap.size wr W2) := by
        refine ⟨_, rfl, ?_, ((Below.refl wr.heap.size wr).alloc (Nat.le_refl _) _).alloc (by simp) _⟩
        have := heap_alloc_new (wr.alloc (.cells #[.string ya, .string yb] 64)) (.cells #[.string ya, .string yb] 61)
        simpa using this
      obtain ⟨W2, hW2, hk3, hbW⟩ := HD.out
      have HK3 := Lib.hid hk3
      have HW2 := Lib.hid hW2
      have HIW0 := HI.out.go hbW
      unfold OwF at HIW0
      rw [hln] at HIW0
      have HIW := Lib.hid HIW0
      have HKW : Hid (W2.heap[w.heap.size + 1 + 1]? = some (.cells #[.int .i64 n, .slice ai j ci, .string body] 31 (0, 0))) := (hbW.block _ (by omega)).trans HK.out
      have HGW : Hid (W0.grownBy W2 (some (w.heap.size + 1 + 1))) := gb_trans HG.out (gb_below hbW)
      have k1 := cell_of_row _ _ 1 _ _ _ HK.out
      have hko : w.heap.size + 1 + 1 < wr.heap.size := by omega
      have hkn : w.heap.size + 1 + 1 ≠ wr.heap.size := by omega
      have C1 : Hid (∀ (i : Nat) (v : Value), [Value.string ya, .string yb][i]? = some v → W2.cell? ((⟨wr.heap.size + 1, 0, none⟩ : Addr).add i) = some v) := fun i v hv => by
        have hj5 : i < 2 := by
          rcases Nat.lt_or_ge i 2 with h | h
          · exact h
          · rw [List.getElem?_eq_none (by show 2 ≤ i; exact h)] at hv; cases hv
        have ea : (⟨wr.heap.size + 1, 0, none⟩ : Addr).add i = ⟨wr.heap.size + 1, i, none⟩ := by unfold Addr.add; split <;> simp_all
        rw [ea, cell_of_row _ _ i _ _ _ HK3.out]
        match i, hj5 with
        | 0, _ => exact hv
        | 1, _ => exact hv
      have C2 : Hid (∀ u ∈ [Value.string ya, .string yb], u.oneCell' = true) := fun v hv => by simp at hv; rcases hv with rfl | rfl <;> rfl
      have C3 : Hid (j + 1 ≤ maxLen) := by show _ ≤ _; unfold maxLen; omega
      have C4 : Hid ((j + 1) * 32 ≤ 140737488355328) := by show _ ≤ _; omega
      have C5 : Hid (w.heap.size + 1 + 1 + 1 ≤ W2.heap.size) := by show _ ≤ _; have := hbW.size; omega
      have hso : wr.heap.size ≤ W2.heap.size := hbW.size
      clear HD hk3 hW2 HIW0 hln hbW
      go_wp2_with (at_builtin; rw [← HW2.out]; refine wpList_append_own _ rfl _ _ 29 rfl (w.heap.size + 1 + 1 + 1) 61 i0 _ 2 32 Tryd.underlying29 hi hz0 hz1 hz2 rfl (by decide) _ _ _ rfl HIW.out ⟨wr.heap.size + 1, 0, none⟩ 1 1 [.string ya, .string yb] rfl rfl C1.out C2.out C3.out C4.out C5.out ?_)
      intro v' w5 hown' hgrow _
      obtain ⟨ap, cq, hv'⟩ := own_len hown'
      subst hv'
      have hlo : ∀ p, (Value.slice ai j ci).ownBlock = some p → w.heap.size + 1 + 1 + 1 ≤ p ∧ p < W2.heap.size := fun p hp => HIW.out.lt p hp
      have HK5 : Hid (w5.heap[w.heap.size + 1 + 1]? = some (.cells #[.int .i64 n, .slice ai j ci, .string body] 31 (0, 0))) := (hgrow.block _ (by omega) (fun e => by have := hlo _ e.symm; omega)).trans HKW.out
      have HG5 : Hid (W0.grownBy w5 (some (w.heap.size + 1 + 1))) := ⟨hgrow.os.trans HGW.out.os, hgrow.tape.trans HGW.out.tape, hgrow.output.trans HGW.out.output, Nat.le_trans HGW.out.size hgrow.size, fun p hp hr => (hgrow.block p (Nat.lt_of_lt_of_le hp HGW.out.size) (fun e => by have := hlo p e.symm; rw [HZ0.out] at hp; omega)).trans (HGW.out.block p hp hr)⟩
      have HO5 : Hid (OwF 61 (w.heap.size + 1 + 1 + 1) (.slice ap (j + 1) cq) (fs.take (j + 1)) w5) := by
        show World.ownsRow _ _ _ _ _ _ _
        rw [HSN.out, HLN.out]
        exact hown'
      have HK6 : Hid ((w5.setCell ⟨w.heap.size + 1 + 1, 1, none⟩ (.slice ap (j + 1) cq)).heap[w.heap.size + 1 + 1]? = some (.cells #[.int .i64 n, .slice ap (j + 1) cq, .string body] 31 (0, 0))) := by
        have := blk_set HK5.out 1 (.slice ap (j + 1) cq)
        show (w5.setCell ⟨w.heap.size + 1 + 1, 1, none⟩ (.slice ap (j + 1) cq)).heap[w.heap.size + 1 + 1]? = _
        simpa using this
      have HG6 : Hid (W0.grownBy (w5.setCell ⟨w.heap.size + 1 + 1, 1, none⟩ (.slice ap (j + 1) cq)) (some (w.heap.size + 1 + 1))) := gb_trans HG5.out (gb_set _ _ _ _)
      have HO6 := Lib.hid (HO5.out.gb (gb_set w5 (w.heap.size + 1 + 1) 1 (.slice ap (j + 1) cq)) (by omega))
      have y1 := cell_of_row _ _ 1 _ _ _ HK5.out
      have z1 := frz2 HK5.out 1
      clear hown' hgrow hlo HK5 HG5 HO5 HIW
      go_wp2
      go_roundw
      case rel => exact ⟨j + 1, (.slice ap (j + 1) cq), by omega, by go_num, HK6.out, HO6.out, HG6.out⟩
      case measure => simp [intOf]; omega
    · have hje : j = fs.length := by omega
      subst hje
      have hI2 := HI.out
      rw [List.take_length] at hI2
      have HI2 := Lib.hid hI2
      clear hI2 HI
      have HRr : Hid (wr.heap[w.heap.size + 1]? = some (.cells #[.int .i64 0, .slice none 0 0, .string ⟨#[]⟩] 31 (0, 0))) := (HG.out.block _ (by rw [HZ0.out]; omega) (fun e => by injection e with e; omega)).trans HR0.out
      have HBr : Hid (Below w.heap.size w wr) := HB0.out.grown HG.out HB0.out.size (fun k hk => by injection hk with e; omega)
      obtain ⟨k0, k1, k2⟩ := cells3 HK.out
      obtain ⟨c0, c1, c2⟩ := cells3 HRr.out
      have z0 := frz2 HRr.out 0
      have z1 := frz2 HRr.out 1
      have z2 := frz2 HRr.out 2
      have HH := Lib.hid (st3 HRr.out (.int .i64 n) (.slice ai fs.length ci) (.string body))
      have HHB : Hid (Below w.heap.size w (((wr.setCell ⟨w.heap.size + 1, 0, none⟩ (.int .i64 n)).setCell ⟨w.heap.size + 1, 1, none⟩ (.slice ai fs.length ci)).setCell ⟨w.heap.size + 1, 2, none⟩ (.string body))) := ((HBr.out.setCell (p := ⟨w.heap.size + 1, 0, none⟩) (Nat.le_succ _) _).setCell (p := ⟨w.heap.size + 1, 1, none⟩) (Nat.le_succ _) _).setCell (p := ⟨w.heap.size + 1, 2, none⟩) (Nat.le_succ _) _
      have HGS := Lib.hid (gb_trans (gb_trans (gb_set wr (w.heap.size + 1) 0 (.int .i64 n)) (gb_set _ (w.heap.size + 1) 1 (.slice ai fs.length ci))) (gb_set _ (w.heap.size + 1) 2 (.string body)))
      have HOS := Lib.hid (OwF.mono (B' := w.heap.size) (HI2.out.gb HGS.out (by omega)) (by omega))
      go_wp2
      obtain ⟨d0, d1, d2⟩ := cells3 HH.out
      clear c0 c1 c2 z0 z1 z2 k0 k1 k2
      (with_reducible refine bodyPost_ret (v := .agg #[.int .i64 n, .slice ai fs.length ci, .string body]) (by simp [results, Tryd.results10, go_sem, d0, d1, d2]) rfl ⟨ai, ci, rfl, HOS.out, HHB.out⟩)
end Go.Proofs.YtolfenachbbjdaaDoor.Rp
