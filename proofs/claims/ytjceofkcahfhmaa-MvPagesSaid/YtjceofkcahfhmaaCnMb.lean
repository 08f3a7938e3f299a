/- Contracts and plain mathematics of some packages' functions, laid together; conditions as each one says. -/
import Derived.Test.YtjceofkcahfhmaaCnMa
namespace Go.Proofs.Ytjceofkcahfhmaa.Cn
open Go.RowKit Go.Lib Go.Shelf Go.Sort
set_option linter.unusedSimpArgs false
set_option linter.unusedVariables false

theorem infoR : (Try.prog.info? 89).map (fun i => (i.zero, i.size, i.bytes)) = some (some (.agg #[.int .i64 0, .string ⟨#[]⟩, .bool false]), 3, 32) := by kernel_rfl
set_option maxRecDepth 100000 in
set_option maxHeartbeats 2000000 in
theorem Counts_c (ao : Option Addr) (cap : Nat) (l : List Ver) (rev : Int) (w : World) (hR : RdV (.slice ao l.length cap) l w) (ha : Asc l) (hm : l.length ≤ 1000000) :
    Calls Try.prog 54 #[.slice ao l.length cap, .int .i64 rev] w fun e w' => e = .returned (.int .i64 ((cnt l rev : Nat) - 1 : Int)) ∧ Below w.heap.size w w' := by
  have HR := Lib.hid hR
  have HA := Lib.hid ha
  have hcl := cnt_le l rev
  clear hR ha
  go_enter Try.func54, Try.ntmps54
  go_wp2
  go_loopw [5, 10] (fun kv iv wr => ∃ j : Nat, j ≤ l.length ∧ iv = .int .i64 j ∧ kv = .int .i64 (((min j (cnt l rev) : Nat) : Int) - 1) ∧ Hid (Below w.heap.size w wr)) (fun _ iv _ => l.length - (intOf iv).toNat)
  case atStart => exact ⟨0, by omega, rfl, by simp, Lib.hid (Below.refl _ _)⟩
  case round =>
    obtain ⟨j, hj, rfl, rfl, HB⟩ := hrel
    by_cases hlt : j < l.length
    · obtain ⟨g, off, rfl, hg, hat⟩ := rdv_at (HR.out.go HB.out) (by omega)
      obtain ⟨p0, p1, p2⟩ := hat j hlt
      have hci := cnt_iff (rev := rev) HA.out hlt
      have hj0 : (0 : Int) ≤ (j : Int) := by omega
      have hjl : (j : Int) < (l.length : Int) := by omega
      clear hat
      obtain ⟨⟨x1, x2, x3⟩, hx⟩ : ∃ x : Ver, l[j] = x := ⟨_, rfl⟩
      rw [hx] at p0 p1 p2 hci
      simp only at p0 p1 p2 hci
      clear hx
      obtain ⟨W1, hW1, hk1, hb1⟩ := new3 wr (.int .i64 x1) (.string x2) (.bool x3) 89
      have HB1 : Hid (Below w.heap.size w W1) := HB.out.trans (hb1.mono HB.out.size)
      have HW1 := Lib.hid hW1
      have hgn : g ≠ wr.heap.size := by omega
      clear hW1 hk1 hb1
      by_cases hr : x1 ≤ rev
      · have h1 := hci.1 hr
        have HZ : Hid (((min (j + 1) (cnt l rev) : Nat) : Int) - 1 = j) := by show _ = _; omega
        clear hci h1
        generalize (((min j (cnt l rev) : Nat) : Int) - 1) = z
        go_wp2
        rw [← HW1.out]
        go_roundw
        case rel => exact ⟨j + 1, by omega, by go_num, by rw [HZ.out], HB1⟩
        case measure => simp [intOf]; omega
      · have h1 : ¬ j < cnt l rev := fun h => hr (hci.2 h)
        have HZ : Hid (((min (j + 1) (cnt l rev) : Nat) : Int) - 1 = ((min j (cnt l rev) : Nat) : Int) - 1) := by show _ = _; omega
        clear hci h1
        revert HZ
        generalize (((min j (cnt l rev) : Nat) : Int) - 1) = z
        intro HZ
        go_wp2
        rw [← HW1.out]
        go_roundw
        case rel => exact ⟨j + 1, by omega, by go_num, by rw [HZ.out], HB1⟩
        case measure => simp [intOf]; omega
    · have hjl : ¬ (j : Int) < (l.length : Int) := by omega
      have HZ : Hid (((min j (cnt l rev) : Nat) : Int) - 1 = ((cnt l rev : Nat) : Int) - 1) := by show _ = _; omega
      revert HZ
      generalize (((min j (cnt l rev) : Nat) : Int) - 1) = z
      intro HZ
      go_wp2
      go_ret
      exact ⟨congrArg (fun q => Ending.returned (.int .i64 q)) HZ.out, HB.out⟩
theorem cmp_take {l : List Ver} {s j : Nat} (hj : j < l.length) : (l.take (j + 1)).drop s = (l.take j).drop s ++ (if s ≤ j then [l[j]] else []) := by
  rw [List.take_succ_eq_append_getElem hj]
  by_cases h : s ≤ j
  · rw [if_pos h, List.drop_append_of_le_length (by rw [List.length_take]; omega)]
  · rw [if_neg h, List.append_nil, List.drop_eq_nil_of_le (by simp; omega), List.drop_eq_nil_of_le (by simp; omega)]
theorem spr_le_iff {l : List Ver} {rev : Int} {j : Nat} (hj : j < l.length) : spr l rev ≤ j ↔ (((cnt l rev : Nat) : Int) - 1 < j ∨ ((j : Int) = ((cnt l rev : Nat) : Int) - 1 ∧ l[j].2.2 = false)) := by
  unfold spr
  by_cases h0 : cnt l rev = 0
  · rw [if_pos h0, h0]; simp; omega
  · rw [if_neg h0]
    have hcl := cnt_le l rev
    have hg : goneAt l (cnt l rev - 1) = (l[cnt l rev - 1]'(by omega)).2.2 := gone_at (by omega)
    rw [hg]
    cases hh : (l[cnt l rev - 1]'(by omega)).2.2 with
    | true =>
      rw [if_pos rfl]
      constructor
      · intro h; left; omega
      · rintro (h | ⟨h, h2⟩)
        · omega
        · have e : cnt l rev - 1 = j := by omega
          subst e
          rw [hh] at h2; cases h2
    | false =>
      rw [if_neg (by decide)]
      constructor
      · intro h
        by_cases e : cnt l rev - 1 = j
        · subst e
          right; exact ⟨by omega, hh⟩
        · left; omega
      · rintro (h | ⟨h, _⟩) <;> omega
end Go.Proofs.Ytjceofkcahfhmaa.Cn
namespace Go.Proofs.Ytjceofkcahfhmaa.Cn
open Go.RowKit Go.Lib Go.Shelf Go.Sort
set_option linter.unusedSimpArgs false
set_option linter.unusedVariables false

theorem own_lenV {T : TypeId} {B k n : Nat} {v : Value} {xs : List Value} {w : World} (h : w.ownsRow B T k v n xs) : ∃ ao cap, v = .slice ao n cap := by
  rcases own_slV h with ⟨e, h0⟩ | ⟨g, cp, e, _⟩
  · exact ⟨none, 0, by rw [e, h0]⟩
  · exact ⟨_, _, e⟩
set_option maxRecDepth 100000 in
set_option maxHeartbeats 4000000 in
theorem CompactR_c (ao : Option Addr) (cap : Nat) (l : List Ver) (rev : Int) (w : World) (hR : RdV (.slice ao l.length cap) l w) (ha : Asc l) (hm : l.length ≤ 1000000) :
    Calls Try.prog 40 #[.slice ao l.length cap, .int .i64 rev] w fun e w' => ∃ v, e = .returned v ∧ OwV 89 w.heap.size v (cmp l rev) w' ∧ Below w.heap.size w w' := by
  obtain ⟨i0, hi, hz0, hz1, hz2⟩ := info_parts infoR
  have HR := Lib.hid hR
  have HA := Lib.hid ha
  have HCM : Hid (cmp l rev = l.drop (spr l rev)) := rfl
  clear hR ha
  rw [HCM.out]
  clear HCM
  go_enter Try.func40, Try.ntmps40
  go_wp2
  go_loopw [5, 11] (fun ov iv wr => ∃ j : Nat, j ≤ l.length ∧ iv = .int .i64 j ∧ Hid (OwV 89 w.heap.size ov ((l.take j).drop (spr l rev)) wr) ∧ Hid (Below w.heap.size w wr)) (fun _ iv _ => l.length - (intOf iv).toNat)
  case atStart =>
    refine ⟨0, by omega, rfl, ?_, Lib.hid (Below.refl _ _)⟩
    show OwV _ _ _ _ _
    rw [List.take_zero, List.drop_nil]
    exact World.ownsRow_nil _ _ _ _
  case round =>
    obtain ⟨j, hj, rfl, HO, HB⟩ := hrel
    obtain ⟨aov, cpv, hv⟩ := own_lenV HO.out
    subst hv
    by_cases hlt : j < l.length
    · obtain ⟨g, off, hao, hg, hat⟩ := rdv_at (HR.out.go HB.out) (by omega)
      subst hao
      obtain ⟨p0, p1, p2⟩ := hat j hlt
      have hsi := spr_le_iff (rev := rev) hlt
      have hj0 : (0 : Int) ≤ (j : Int) := by omega
      have hjl : (j : Int) < (l.length : Int) := by omega
      have HST : Hid ((l.take (j + 1)).drop (spr l rev) = (l.take j).drop (spr l rev) ++ (if spr l rev ≤ j then [l[j]] else [])) := cmp_take hlt
      have hln : ((l.take j).drop (spr l rev)).length ≤ 1000000 := by rw [List.length_drop, List.length_take]; omega
      clear hat
      obtain ⟨⟨x1, x2, x3⟩, hx⟩ : ∃ x : Ver, l[j] = x := ⟨_, rfl⟩
      rw [hx] at p0 p1 p2 hsi HST
      simp only at p0 p1 p2 hsi
      clear hx
      obtain ⟨W1, hW1, hk1, hb1⟩ := new3 wr (.int .i64 x1) (.string x2) (.bool x3) 89
      have HC1 := Lib.hid (Counts_c _ cap l rev W1 ((HR.out.go HB.out).go hb1) HA.out hm)
      have HB1 : Hid (Below w.heap.size w W1) := HB.out.trans (hb1.mono HB.out.size)
      have HO1 := Lib.hid (HO.out.go hb1)
      have HW1 := Lib.hid hW1
      have HK1 := Lib.hid hk1
      have hgn : g ≠ wr.heap.size := by omega
      have hlt1 : wr.heap.size < W1.heap.size := (Array.getElem?_eq_some_iff.1 hk1).1
      clear hW1 hk1 hb1 HO
      by_cases hsp : spr l rev ≤ j
      · rw [if_pos hsp] at HST
        have hsi := hsi.1 hsp
        revert HO1 HST hln
        generalize (l.take j).drop (spr l rev) = acc
        intro hln HST HO1
        revert hsi HC1
        generalize (((cnt l rev : Nat) : Int) - 1) = kk
        intro HC1 hsi
        by_cases hkj : kk < j
        · clear hsi
          go_wp2_with fail
          rw [← HW1.out]
          refine HC1.out.mono ?_
          rintro e w2 ⟨rfl, hb2⟩
          have HB2 : Hid (Below w.heap.size w w2) := HB1.out.trans (hb2.mono HB1.out.size)
          have HK2 := Lib.hid ((hb2.block _ hlt1).trans HK1.out)
          obtain ⟨d0, d1, d2⟩ := cells3 HK2.out
          obtain ⟨W3, hW3, hk3, hb3⟩ := new3 w2 (.int .i64 x1) (.string x2) (.bool x3) 89
          have HW3 := Lib.hid hW3
          have HO3 := Lib.hid ((HO1.out.go hb2).go hb3)
          have HB3 : Hid (Below w.heap.size w W3) := HB2.out.trans (hb3.mono HB2.out.size)
          have DC := Lib.hid (enc_cell hk3)
          have D3 : Hid (acc.length + 1 ≤ maxLen) := by show _ ≤ _; unfold maxLen; omega
          have D4 : Hid ((acc.length + 1) * 32 ≤ 140737488355328) := by show _ ≤ _; omega
          have E1 : Hid (w.heap.size ≤ W3.heap.size) := HB3.out.size
          clear hW3 hk3 hb3 hb2 HO1
          go_wp2_with (at_builtin; rw [← HW3.out]; refine wpList_append_own _ rfl _ _ 71 rfl w.heap.size 89 i0 _ 3 32 Try.underlying71 hi hz0 hz1 hz2 rfl (by decide) _ _ _ rfl HO3.out ⟨w2.heap.size, 0, none⟩ 1 1 (encV (x1, x2, x3)) rfl rfl DC.out (enc_ok _) D3.out D4.out E1.out ?_)
          intro v1 V1 hown1 hgrow1 _
          have HBV : Hid (Below w.heap.size w V1) := HB3.out.grown hgrow1 HB3.out.size (fun k hk => (HO3.out.lt k hk).1)
          have HOV : Hid (OwV 89 w.heap.size v1 ((l.take (j + 1)).drop (spr l rev)) V1) := by
            show World.ownsRow _ _ _ _ _ _ _
            rw [HST.out, vC_snoc, List.length_append]; exact hown1
          clear hown1 hgrow1
          go_wp2
          go_roundw
          case rel => exact ⟨j + 1, by omega, by go_num, HOV, HBV⟩
          case measure => simp [intOf]; omega
        · have hkj2 : kk = j ∧ x3 = false := by
            rcases hsi with h | h
            · exact absurd h hkj
            · exact ⟨h.1.symm, h.2⟩
          obtain ⟨rfl, rfl⟩ := hkj2
          clear hsi
          go_wp2_with fail
          rw [← HW1.out]
          refine HC1.out.mono ?_
          rintro e w2 ⟨rfl, hb2⟩
          have HB2 : Hid (Below w.heap.size w w2) := HB1.out.trans (hb2.mono HB1.out.size)
          have HK2 := Lib.hid ((hb2.block _ hlt1).trans HK1.out)
          obtain ⟨d0, d1, d2⟩ := cells3 HK2.out
          obtain ⟨W3, hW3, hk3, hb3⟩ := new3 w2 (.int .i64 x1) (.string x2) (.bool false) 89
          have HW3 := Lib.hid hW3
          have HO3 := Lib.hid ((HO1.out.go hb2).go hb3)
          have HB3 : Hid (Below w.heap.size w W3) := HB2.out.trans (hb3.mono HB2.out.size)
          have DC := Lib.hid (enc_cell hk3)
          have D3 : Hid (acc.length + 1 ≤ maxLen) := by show _ ≤ _; unfold maxLen; omega
          have D4 : Hid ((acc.length + 1) * 32 ≤ 140737488355328) := by show _ ≤ _; omega
          have E1 : Hid (w.heap.size ≤ W3.heap.size) := HB3.out.size
          clear hW3 hk3 hb3 hb2 HO1
          go_wp2_with (at_builtin; rw [← HW3.out]; refine wpList_append_own _ rfl _ _ 71 rfl w.heap.size 89 i0 _ 3 32 Try.underlying71 hi hz0 hz1 hz2 rfl (by decide) _ _ _ rfl HO3.out ⟨w2.heap.size, 0, none⟩ 1 1 (encV (x1, x2, false)) rfl rfl DC.out (enc_ok _) D3.out D4.out E1.out ?_)
          intro v1 V1 hown1 hgrow1 _
          have HBV : Hid (Below w.heap.size w V1) := HB3.out.grown hgrow1 HB3.out.size (fun k hk => (HO3.out.lt k hk).1)
          have HOV : Hid (OwV 89 w.heap.size v1 ((l.take (j + 1)).drop (spr l rev)) V1) := by
            show World.ownsRow _ _ _ _ _ _ _
            rw [HST.out, vC_snoc, List.length_append]; exact hown1
          clear hown1 hgrow1
          go_wp2
          go_roundw
          case rel => exact ⟨j + 1, by omega, by go_num, HOV, HBV⟩
          case measure => simp [intOf]; omega
      · rw [if_neg hsp, List.append_nil] at HST
        have hsi2 : ¬ (((cnt l rev : Nat) : Int) - 1 < j) ∧ ¬ ((j : Int) = ((cnt l rev : Nat) : Int) - 1 ∧ x3 = false) := ⟨fun h => hsp (hsi.2 (.inl h)), fun h => hsp (hsi.2 (.inr h))⟩
        clear hsi
        revert HO1 HST hln
        generalize (l.take j).drop (spr l rev) = acc
        intro hln HST HO1
        revert hsi2 HC1
        generalize (((cnt l rev : Nat) : Int) - 1) = kk
        intro HC1 hsi2
        have hkj := hsi2.1
        by_cases hkj2 : (j : Int) = kk
        · have hx3 : x3 = true := by
            cases x3
            · exact absurd ⟨hkj2, rfl⟩ hsi2.2
            · rfl
          subst hkj2 hx3
          clear hsi2
          go_wp2_with fail
          rw [← HW1.out]
          refine HC1.out.mono ?_
          rintro e w2 ⟨rfl, hb2⟩
          have HB2 : Hid (Below w.heap.size w w2) := HB1.out.trans (hb2.mono HB1.out.size)
          have HO2 : Hid (OwV 89 w.heap.size (.slice aov acc.length cpv) ((l.take (j + 1)).drop (spr l rev)) w2) := by
            show OwV _ _ _ _ _
            rw [HST.out]; exact HO1.out.go hb2
          have HK2 := Lib.hid ((hb2.block _ hlt1).trans HK1.out)
          obtain ⟨d0, d1, d2⟩ := cells3 HK2.out
          clear hb2 HO1
          go_wp2
          go_roundw
          case rel => exact ⟨j + 1, by omega, by go_num, HO2, HB2⟩
          case measure => simp [intOf]; omega
        · clear hsi2
          go_wp2_with fail
          rw [← HW1.out]
          refine HC1.out.mono ?_
          rintro e w2 ⟨rfl, hb2⟩
          have HB2 : Hid (Below w.heap.size w w2) := HB1.out.trans (hb2.mono HB1.out.size)
          have HO2 : Hid (OwV 89 w.heap.size (.slice aov acc.length cpv) ((l.take (j + 1)).drop (spr l rev)) w2) := by
            show OwV _ _ _ _ _
            rw [HST.out]; exact HO1.out.go hb2
          have HK2 := Lib.hid ((hb2.block _ hlt1).trans HK1.out)
          obtain ⟨d0, d1, d2⟩ := cells3 HK2.out
          clear hb2 HO1
          go_wp2
          go_roundw
          case rel => exact ⟨j + 1, by omega, by go_num, HO2, HB2⟩
          case measure => simp [intOf]; omega
    · have hjl : ¬ (j : Int) < (l.length : Int) := by omega
      have HOE : Hid (OwV 89 w.heap.size (.slice aov ((l.take j).drop (spr l rev)).length cpv) (l.drop (spr l rev)) wr) := by
        show OwV _ _ _ _ _
        have := HO.out
        rw [show l.take j = l from List.take_of_length_le (by omega)] at this ⊢
        exact this
      clear HO
      revert HOE
      generalize ((l.take j).drop (spr l rev)).length = q
      intro HOE
      go_wp2
      go_ret
      exact ⟨_, rfl, HOE.out, HB.out⟩
end Go.Proofs.Ytjceofkcahfhmaa.Cn
namespace Go.Proofs.Ytjceofkcahfhmaa.Cn
open Go.RowKit Go.Lib Go.Shelf Go.Sort
set_option linter.unusedSimpArgs false
set_option linter.unusedVariables false

def PtR (B : Nat) (l : List Ver) (v : Ver) (w : World) (e : Ending) (w' : World) : Prop := ∃ x, e = .returned (.tuple #[x, .int .i64 (putE l v)]) ∧ OwV 89 B x (putL l v) w' ∧ Below w.heap.size w w'
theorem any_take {l : List Ver} {r : Int} {j : Nat} (hj : j < l.length) : (l.take (j + 1)).any (fun x => decide (r ≤ x.1)) = ((l.take j).any (fun x => decide (r ≤ x.1)) || decide (r ≤ l[j].1)) := by
  rw [List.take_succ_eq_append_getElem hj, List.any_append]; simp
theorem any_hit {l : List Ver} {r : Int} {j : Nat} (hj : j < l.length) (h : r ≤ l[j].1) : l.any (fun x => decide (r ≤ x.1)) = true := by
  rw [List.any_eq_true]; exact ⟨l[j], List.getElem_mem hj, by simpa using h⟩
theorem run_app0 (ty : TypeId) (g cap : Nat) (ao : Option Addr) (W : World) : (Builtin.append_ #[71, 71] ty #[.slice (some ⟨g, 0, none⟩) 0 0, .slice ao 0 cap]).run Try.prog W = .ok (.slice (some ⟨g, 0, none⟩) 0 0) W := by
  obtain ⟨i0, hi, hz0, hz1, hz2⟩ := info_parts infoR
  cases ao <;> simp [Builtin.append_, run_underlying Try.underlying71, sizeOf, typeInfo, hi, Builtin.lenOf, Builtin.firstCells, storeCells, loadCells, loadCellsFrom]
theorem step_app0 {ops : Array Oper} {o : Oper} {a : Act} {w : World} {K : Act → World → Prop} {Q : Exit → Act → World → Prop} {E : Prop} (hgd : o.guard = none) (s x : Operand)
    (ho : o.op = .call { callee := .builtin .append, args := #[s, x], argTypes := #[71, 71] }) (g cap : Nat) (ao : Option Addr) (hs : a.eval s = .slice (some ⟨g, 0, none⟩) 0 0) (hx : a.eval x = .slice ao 0 cap)
    (h : K (a.put o.dst (.slice (some ⟨g, 0, none⟩) 0 0)) w) : if Region.wanted o (yielded ops a.tmps) = true then Oper.wp Try.prog o a w K Q else E := by
  have hw : Region.wanted o (yielded ops a.tmps) = true := by simp [Region.wanted, hgd]
  rw [if_pos hw]
  unfold Oper.wp execOp
  simp only [ho, resolve, invoke, builtin, Sem.run_bind, Sem.run_pure, Result.andThen_ok, List.map_toArray, List.map_cons, List.map_nil, hs, hx, run_app0]
  exact h
theorem putE_arg {l : List Ver} {v : Ver} (h : v.1 < 1 ∨ 9007199254740991 < v.1) : putE l v = 1 ∧ putL l v = l := by
  have e : putE l v = 1 := by unfold putE; rw [if_pos h]
  exact ⟨e, by unfold putL; rw [e, if_neg (by decide)]⟩
theorem putE_state {l : List Ver} {v : Ver} (h1 : 1 ≤ v.1) (h2 : v.1 ≤ 9007199254740991) (h : l.any (fun x => decide (v.1 ≤ x.1)) = true) : putE l v = 10 ∧ putL l v = l := by
  have e : putE l v = 10 := by unfold putE; rw [if_neg (by omega), if_pos h]
  exact ⟨e, by unfold putL; rw [e, if_neg (by decide)]⟩
theorem putE_ok {l : List Ver} {v : Ver} (h1 : 1 ≤ v.1) (h2 : v.1 ≤ 9007199254740991) (h : l.any (fun x => decide (v.1 ≤ x.1)) = false) : putE l v = 0 ∧ putL l v = l ++ [v] := by
  have e : putE l v = 0 := by unfold putE; rw [if_neg (by omega), h, if_neg (by decide)]
  exact ⟨e, by unfold putL; rw [e, if_pos rfl]⟩
theorem boxV {w W : World} {x y z : Value} {t : TypeId} (h : W.heap[w.heap.size]? = some (.cells #[x, y, z] t (0, 0))) {V : World} (hb : Below W.heap.size W V) : V.cell? ⟨w.heap.size, 0, none⟩ = some x ∧ V.cell? ⟨w.heap.size, 1, none⟩ = some y ∧ V.cell? ⟨w.heap.size, 2, none⟩ = some z :=
  cells3 ((hb.block _ (Array.getElem?_eq_some_iff.1 h).1).trans h)
/-- behind the loop: a row more, at an empty row that is made new -/
theorem first_ap {B g0 g1 c1 : Nat} {l : List Ver} {T : TypeId} {W V : World} (hown : V.ownsRow B T 3 (.slice (some ⟨g1, 0, none⟩) (0 + l.length) c1) (0 + l.length) ([] ++ vC l)) : OwV T B (.slice (some ⟨g1, 0, none⟩) l.length c1) l V := by
  show World.ownsRow _ _ _ _ _ _ _
  simpa using hown
theorem grown_low {B g : Nat} {w W V : World} (hb : Below w.heap.size w W) (hB : w.heap.size ≤ W.heap.size) (hg : W.grownBy V (some g)) (h : w.heap.size ≤ g) : Below w.heap.size w V :=
  hb.grown hg hB (fun k hk => by injection hk with hk; omega)
/-- behind the loop: what the first append leaves -/
structure Ap (B g1 c1 ge : Nat) (l : List Ver) (v : Ver) (w V : World) : Prop where
  own : OwV 89 B (.slice (some ⟨g1, 0, none⟩) l.length c1) l V
  els : ∀ j u, (encV v)[j]? = some u → V.cell? ((⟨ge, 0, none⟩ : Addr).add j) = some u
  bel : Below w.heap.size w V
theorem ptr_end {B g2 c2 : Nat} {l : List Ver} {v : Ver} {w V V2 : World} {gb : Option Nat} (h1 : 1 ≤ v.1) (h2 : v.1 ≤ 9007199254740991) (ha : l.any (fun x => decide (v.1 ≤ x.1)) = false) (hB : B ≤ w.heap.size)
    (hb : Below w.heap.size w V) (hown : V2.ownsRow w.heap.size 89 3 (.slice (some ⟨g2, 0, none⟩) (l.length + 1) c2) (l.length + 1) (vC l ++ encV v)) (hgrow : V.grownBy V2 gb) (hg : ∀ k, gb = some k → w.heap.size ≤ k) :
    PtR B l v w (.returned (.tuple #[.slice (some ⟨g2, 0, none⟩) (l.length + 1) c2, .int .i64 0])) V2 := by
  obtain ⟨e1, e2⟩ := putE_ok h1 h2 ha
  refine ⟨_, by rw [e1], ?_, hb.grown hgrow hb.size hg⟩
  rw [e2]
  show World.ownsRow _ _ _ _ _ _ _
  have ho : OwV 89 w.heap.size (.slice (some ⟨g2, 0, none⟩) (l.length + 1) c2) (l ++ [v]) V2 := by
    show World.ownsRow _ _ _ _ _ _ _
    rw [vC_snoc, List.length_append]; exact hown
  exact ho.mono hB
abbrev ObE : Obj := .cells #[] 89
abbrev ObV (v1 : Int) (v2 : ByteArray) (v3 : Bool) : Obj := .cells #[.int .i64 v1, .string v2, .bool v3] 89
theorem own_e (wr : World) (B : Nat) (h : B ≤ wr.heap.size) : OwV 89 B (.slice (some ⟨wr.heap.size, 0, none⟩) 0 0) [] (wr.alloc ObE) := World.ownsRow_made wr #[] 0 h (by unfold maxLen; omega) rfl
/-- a world on the way: the empty row's block gx, at or above w's heap -/
structure Wy (gx : Nat) (w wr W : World) (v1 : Int) (v2 : ByteArray) (v3 : Bool) : Prop where
  own : OwV 89 w.heap.size (.slice (some ⟨gx, 0, none⟩) 0 0) [] W
  bel : Below wr.heap.size wr W
  low : Below w.heap.size w W
  box : W.heap[w.heap.size]? = some (.cells #[.int .i64 v1, .string v2, .bool v3] 89 (0, 0))
  ne : w.heap.size ≠ gx
theorem Wy.ap {gx g1 c1 : Nat} {w wr W V : World} {v1 : Int} {v2 : ByteArray} {v3 : Bool} {l : List Ver} (h : Wy gx w wr W v1 v2 v3) (hown : V.ownsRow w.heap.size 89 3 (.slice (some ⟨g1, 0, none⟩) (0 + l.length) c1) (0 + l.length) ([] ++ vC l)) (hgrow : W.grownBy V (some gx)) :
    OwV 89 w.heap.size (.slice (some ⟨g1, 0, none⟩) l.length c1) l V ∧ Below w.heap.size w V ∧ V.heap[w.heap.size]? = some (.cells #[.int .i64 v1, .string v2, .bool v3] 89 (0, 0)) ∧ ∀ ge, W.heap[ge]? = some (.cells #[.int .i64 v1, .string v2, .bool v3] 89 (0, 0)) → ge ≠ gx → Ap w.heap.size g1 c1 ge l (v1, v2, v3) w V := by
  have ho : OwV 89 w.heap.size (.slice (some ⟨g1, 0, none⟩) l.length c1) l V := by
    show World.ownsRow _ _ _ _ _ _ _
    simpa using hown
  have hgx : w.heap.size ≤ gx := (h.own.lt gx rfl).1
  have hb : Below w.heap.size w V := h.low.grown hgrow h.low.size (fun k hk => by injection hk with hk; omega)
  have hk : ∀ ge, W.heap[ge]? = some (.cells #[.int .i64 v1, .string v2, .bool v3] 89 (0, 0)) → ge ≠ gx → V.heap[ge]? = some (.cells #[.int .i64 v1, .string v2, .bool v3] 89 (0, 0)) := fun ge hge hne =>
    (hgrow.block ge (Array.getElem?_eq_some_iff.1 hge).1 (fun e => hne (by injection e))).trans hge
  exact ⟨ho, hb, hk _ h.box h.ne, fun ge hge hne => ⟨ho, enc_cell (hk ge hge hne), hb⟩⟩
theorem Ap.new {g1 c1 : Nat} {w V : World} {v1 : Int} {v2 : ByteArray} {v3 : Bool} {l : List Ver} (h1 : OwV 89 w.heap.size (.slice (some ⟨g1, 0, none⟩) l.length c1) l V) (h2 : Below w.heap.size w V) : Ap w.heap.size g1 c1 V.heap.size l (v1, v2, v3) w (V.alloc (ObV v1 v2 v3)) := by
  have hb : Below V.heap.size V (V.alloc (ObV v1 v2 v3)) := (Below.refl _ _).alloc (Nat.le_refl _) _
  exact ⟨h1.go hb, enc_cell (heap_alloc_new V _), h2.trans (hb.mono h2.size)⟩
end Go.Proofs.Ytjceofkcahfhmaa.Cn
