/- The contract of package clog's Next, that goes well: by a key; no other condition. -/
import Derived.Test.YtcmcbocegdejjaaClI
namespace Go.Proofs.Ytcmcbocegdejjaa.Cl
open Go.RowKit Go.Lib Go.Shelf Go.Sort
set_option linter.unusedSimpArgs false
set_option linter.unusedVariables false

/-- v's block, if it has one, is not below B -/
def NwB (v : Value) (B : Nat) : Prop := ∀ g, v.ownBlock = some g → B ≤ g
theorem nwb_nil (B n c : Nat) : NwB (.slice none n c) B := fun g h => by cases h
theorem nwb_own {T : TypeId} {B B' k n : Nat} {v : Value} {xs : List Value} {w : World} (h : w.ownsRow B T k v n xs) (hB : B' ≤ B) : NwB v B' := fun g e => Nat.le_trans hB (World.ownsRow.lt h g e).1
def NxQ (l : List Ent) (la : Int) (w : World) (e : Ending) (w' : World) : Prop := ∃ v, e = .returned (.tuple #[v, .int .i64 la, .int .i64 0]) ∧ RdE v l w' ∧ Below w.heap.size w w' ∧ NwB v w.heap.size
set_option maxRecDepth 100000 in
set_option maxHeartbeats 8000000 in
theorem Next_key {B c : Nat} {gb : Option Nat} {m : Int} {l : List Ent} {fl la : Int} {w : World} (h : IsLg B c gb m l fl la w) (rev : Int) (k : ByteArray) (kb : Nat) (hk : w.cell? ⟨kb, 0, none⟩ = some (.string k)) (hr : ¬ rev < fl) (hr2 : ¬ la < rev) (hs : Srt l) (hm : l.length ≤ 1000000) :
    Calls Try.prog 18 #[.pointer (some ⟨c, 0, none⟩), .int .i64 rev, fV kb] w (NxQ ((abv l rev).filter fun x => fit k x.2) la w) := by
  obtain ⟨i0, hi, hz0, hz1, hz2⟩ := info_parts infoE
  have HS := Lib.hid (Since_ok h rev hr hr2 hs hm)
  have hal := abv_len l rev
  have H := Lib.hid h
  have q := eqf kb
  clear h hr hr2 hs
  generalize abv l rev = b at HS hal ⊢
  go_enter Try.func18, Try.ntmps18
  go_wp2_with fail
  refine HS.out.mono ?_
  rintro e w1 ⟨v, rfl, hrd, hb1⟩
  obtain ⟨v3, hv3, _, _⟩ := (H.out.go hb1).ex
  obtain ⟨c0, c1, c2, c3⟩ := cells4 hv3
  have HR := Lib.hid hrd
  have HB1 := Lib.hid hb1
  obtain ⟨ao, cap, rfl, _⟩ := hrd
  clear hb1 hv3 H HS
  go_wp2
  clear c0 c1 c2 c3
  go_loopw [12, 32] (fun tv iv wr => ∃ j : Nat, j ≤ b.length ∧ iv = .int .i64 j ∧ Hid (wr.ownsRow w1.heap.size 57 4 tv ((b.take j).filter fun x => fit k x.2).length (eC ((b.take j).filter fun x => fit k x.2))) ∧ Hid (Below w1.heap.size w1 wr)) (fun _ iv _ => b.length - (intOf iv).toNat)
  case atStart => exact ⟨0, by omega, rfl, World.ownsRow_nil _ _ _ _, Below.refl _ _⟩
  case round =>
    obtain ⟨j, hj, rfl, HO, HB⟩ := hrel
    obtain ⟨aot, capt, htv⟩ := own_form HO.out
    subst htv
    by_cases hlt : j < b.length
    · obtain ⟨g, o, hao, hg, hat⟩ := (HR.out.go HB.out).at (by omega)
      subst hao
      obtain ⟨p0, p1, p2, p3⟩ := cell4 hat hlt
      have hj0 : (0 : Int) ≤ (j : Int) := by omega
      have hjl : (j : Int) < (b.length : Int) := by omega
      have htk : b.take (j + 1) = b.take j ++ [b[j]] := List.take_succ_eq_append_getElem hlt
      have hfl : ((b.take j).filter fun x => fit k x.2).length ≤ j := Nat.le_trans (List.length_filter_le _ _) (by rw [List.length_take]; omega)
      obtain ⟨⟨x0, x1, x2, x3⟩, hx⟩ : ∃ x : Ent, b[j] = x := ⟨_, rfl⟩
      rw [hx] at p0 p1 p2 p3 htk
      simp only at p0 p1 p2 p3
      have HTK : Hid (((b.take (j + 1)).filter fun x => fit k x.2) = ((b.take j).filter fun x => fit k x.2) ++ (if fit k (x1, x2, x3) = true then [(x0, x1, x2, x3)] else [])) := by
        show _ = _
        rw [htk, List.filter_append]
        congr 1
        all_goals (cases hf : fit k (x1, x2, x3) <;> simp [hf])
      generalize hT : ((b.take j).filter fun x => fit k x.2) = T at HO HTK hfl
      obtain ⟨W2, hW2, hk2, hb2⟩ := new4 wr (.int .i64 x0) (.string x1) (.string x2) (.bool x3) 57
      have HW2 := Lib.hid hW2
      have HK2 := Lib.hid hk2
      obtain ⟨d0, d1, d2, d3⟩ := cells4 hk2
      have HB2 : Hid (Below w1.heap.size w1 W2) := HB.out.trans (hb2.mono HB.out.size)
      have HO2 := Lib.hid (own_go HO.out hb2)
      have hlw : wr.heap.size < W2.heap.size := (Array.getElem?_eq_some_iff.1 hk2).1
      have hgn : g ≠ wr.heap.size := by omega
      have HF := Lib.hid (fit1_c kb k (x1, x2, x3) W2 ((HB2.out.cell (p := ⟨kb, 0, none⟩) (Nat.lt_of_lt_of_le (World.block_lt_of_cell? _ _ hk) HB1.out.size)).trans ((HB1.out.cell (p := ⟨kb, 0, none⟩) (World.block_lt_of_cell? _ _ hk)).trans hk)))
      unfold aggC at HF
      have HL2 : Hid (w1.heap.size ≤ wr.heap.size) := HB.out.size
      clear hat hx htk hT hW2 hk2 hb2 HO HB
      go_wp2_with fail
      rw [← HW2.out]
      refine HF.out.mono ?_
      rintro e w3 ⟨rfl, hb3⟩
      have HB3 : Hid (Below w1.heap.size w1 w3) := HB2.out.trans (hb3.mono HB2.out.size)
      have HO3 := Lib.hid (own_go HO2.out hb3)
      have hk3 := (hb3.block _ hlw).trans HK2.out
      have hlw3 := hb3.size
      clear d0 d1 d2 d3 p0 p1 p2 p3
      obtain ⟨d0, d1, d2, d3⟩ := cells4 hk3
      clear hb3 hk3 HK2
      cases hf : fit k (x1, x2, x3) with
      | true =>
        rw [hf, if_pos rfl] at HTK
        have D3 : Hid (T.length + 1 ≤ maxLen) := by show _ ≤ _; unfold maxLen; omega
        have D4 : Hid ((T.length + 1) * 48 ≤ 140737488355328) := by show _ ≤ _; omega
        obtain ⟨WB, hWB, hkB, hbB⟩ := new4 w3 (.int .i64 x0) (.string x1) (.string x2) (.bool x3) 57
        have HOB := Lib.hid (own_go HO3.out hbB)
        have HWB := Lib.hid hWB
        have HC : Hid (∀ i u, (encE (x0, x1, x2, x3))[i]? = some u → WB.cell? ((⟨w3.heap.size, 0, none⟩ : Addr).add i) = some u) := ent_cell (x := (x0, x1, x2, x3)) hkB
        have HBB : Hid (Below w1.heap.size w1 WB) := HB3.out.trans (hbB.mono HB3.out.size)
        have D5 : Hid (w1.heap.size ≤ WB.heap.size) := HBB.out.size
        have DE := Lib.hid (encE_ok (x0, x1, x2, x3))
        clear hWB hkB hbB
        go_wp2_with (at_builtin; rw [← HWB.out]; refine wpList_append_own _ rfl _ _ 37 rfl w1.heap.size 57 i0 _ 4 48 Try.underlying37 hi hz0 hz1 hz2 rfl (by decide) _ _ _ rfl HOB.out ⟨w3.heap.size, 0, none⟩ 1 1 (encE (x0, x1, x2, x3)) rfl rfl HC.out DE.out D3.out D4.out D5.out ?_)
        intro v4 V4 hown hgrow _
        have HBV : Hid (Below w1.heap.size w1 V4) := HBB.out.grown hgrow HBB.out.size (fun q hq => (HOB.out.lt q hq).1)
        have HOV : Hid (V4.ownsRow w1.heap.size 57 4 v4 ((b.take (j + 1)).filter fun x => fit k x.2).length (eC ((b.take (j + 1)).filter fun x => fit k x.2))) := by
          show World.ownsRow _ _ _ _ _ _ _
          rw [HTK.out, eC_snoc, List.length_append]
          exact hown
        obtain ⟨ap, cq, hv4⟩ := own_form hown
        subst hv4
        clear hown hgrow
        go_wp2
        go_roundw
        case rel => exact ⟨j + 1, by omega, by go_num, HOV, HBV⟩
        case measure => simp [intOf]; omega
      | false =>
        rw [hf, if_neg (by decide), List.append_nil] at HTK
        have HOV : Hid (w3.ownsRow w1.heap.size 57 4 (.slice aot T.length capt) ((b.take (j + 1)).filter fun x => fit k x.2).length (eC ((b.take (j + 1)).filter fun x => fit k x.2))) := by
          show World.ownsRow _ _ _ _ _ _ _
          rw [HTK.out]
          exact HO3.out
        go_wp2
        go_roundw
        case rel => exact ⟨j + 1, by omega, by go_num, HOV, HB3⟩
        case measure => simp [intOf]; omega
    · have hjl : ¬ (j : Int) < (b.length : Int) := by omega
      have hjj : j = b.length := by omega
      rw [hjj, List.take_of_length_le (Nat.le_refl _)] at HO
      have HRD := Lib.hid (own_rd HO.out)
      have HNW := Lib.hid (nwb_own HO.out HB1.out.size)
      have HBW : Hid (Below w.heap.size w wr) := HB1.out.trans (HB.out.mono HB1.out.size)
      rw [hjj, List.take_of_length_le (Nat.le_refl _)]
      clear HO hj hlt
      go_wp2
      exact bodyPost_ret (v := .tuple #[.slice aot ((b.filter fun x => fit k x.2)).length capt, .int .i64 la, .int .i64 0]) (by simp [results, Try.results18, go_sem]) rfl ⟨_, rfl, HRD.out, HBW.out, HNW.out⟩
set_option maxRecDepth 100000 in
set_option maxHeartbeats 8000000 in
theorem Next_all {B c : Nat} {gb : Option Nat} {m : Int} {l : List Ent} {fl la : Int} {w : World} (h : IsLg B c gb m l fl la w) (rev : Int) (hr : ¬ rev < fl) (hr2 : ¬ la < rev) (hs : Srt l) (hm : l.length ≤ 1000000) :
    Calls Try.prog 18 #[.pointer (some ⟨c, 0, none⟩), .int .i64 rev, .nilFunc] w (NxQ ((abv l rev).filter fun x => tru x.2) la w) := by
  obtain ⟨i0, hi, hz0, hz1, hz2⟩ := info_parts infoE
  have HS := Lib.hid (Since_ok h rev hr hr2 hs hm)
  have hal := abv_len l rev
  have H := Lib.hid h
  have q := eqn
  clear h hr hr2 hs
  generalize abv l rev = b at HS hal ⊢
  go_enter Try.func18, Try.ntmps18
  go_wp2_with fail
  refine HS.out.mono ?_
  rintro e w1 ⟨v, rfl, hrd, hb1⟩
  obtain ⟨v3, hv3, _, _⟩ := (H.out.go hb1).ex
  obtain ⟨c0, c1, c2, c3⟩ := cells4 hv3
  have HR := Lib.hid hrd
  have HB1 := Lib.hid hb1
  obtain ⟨ao, cap, rfl, _⟩ := hrd
  clear hb1 hv3 H HS
  go_wp2
  clear c0 c1 c2 c3
  go_loopw [12, 32] (fun tv iv wr => ∃ j : Nat, j ≤ b.length ∧ iv = .int .i64 j ∧ Hid (wr.ownsRow w1.heap.size 57 4 tv ((b.take j).filter fun x => tru x.2).length (eC ((b.take j).filter fun x => tru x.2))) ∧ Hid (Below w1.heap.size w1 wr)) (fun _ iv _ => b.length - (intOf iv).toNat)
  case atStart => exact ⟨0, by omega, rfl, World.ownsRow_nil _ _ _ _, Below.refl _ _⟩
  case round =>
    obtain ⟨j, hj, rfl, HO, HB⟩ := hrel
    obtain ⟨aot, capt, htv⟩ := own_form HO.out
    subst htv
    by_cases hlt : j < b.length
    · obtain ⟨g, o, hao, hg, hat⟩ := (HR.out.go HB.out).at (by omega)
      subst hao
      obtain ⟨p0, p1, p2, p3⟩ := cell4 hat hlt
      have hj0 : (0 : Int) ≤ (j : Int) := by omega
      have hjl : (j : Int) < (b.length : Int) := by omega
      have htk : b.take (j + 1) = b.take j ++ [b[j]] := List.take_succ_eq_append_getElem hlt
      have hfl : ((b.take j).filter fun x => tru x.2).length ≤ j := Nat.le_trans (List.length_filter_le _ _) (by rw [List.length_take]; omega)
      obtain ⟨⟨x0, x1, x2, x3⟩, hx⟩ : ∃ x : Ent, b[j] = x := ⟨_, rfl⟩
      rw [hx] at p0 p1 p2 p3 htk
      simp only at p0 p1 p2 p3
      have HTK : Hid (((b.take (j + 1)).filter fun x => tru x.2) = ((b.take j).filter fun x => tru x.2) ++ (if tru (x1, x2, x3) = true then [(x0, x1, x2, x3)] else [])) := by
        show _ = _
        rw [htk, List.filter_append]
        congr 1
        all_goals (cases hf : tru (x1, x2, x3) <;> simp [hf])
      generalize hT : ((b.take j).filter fun x => tru x.2) = T at HO HTK hfl
      obtain ⟨W2, hW2, hk2, hb2⟩ := new4 wr (.int .i64 x0) (.string x1) (.string x2) (.bool x3) 57
      have HW2 := Lib.hid hW2
      have HK2 := Lib.hid hk2
      obtain ⟨d0, d1, d2, d3⟩ := cells4 hk2
      have HB2 : Hid (Below w1.heap.size w1 W2) := HB.out.trans (hb2.mono HB.out.size)
      have HO2 := Lib.hid (own_go HO.out hb2)
      have hlw : wr.heap.size < W2.heap.size := (Array.getElem?_eq_some_iff.1 hk2).1
      have hgn : g ≠ wr.heap.size := by omega
      have HF := Lib.hid (all1_c (x1, x2, x3) W2)
      unfold aggC at HF
      have HL2 : Hid (w1.heap.size ≤ wr.heap.size) := HB.out.size
      clear hat hx htk hT hW2 hk2 hb2 HO HB
      go_wp2_with fail
      rw [← HW2.out]
      refine HF.out.mono ?_
      rintro e w3 ⟨rfl, hb3⟩
      have HB3 : Hid (Below w1.heap.size w1 w3) := HB2.out.trans (hb3.mono HB2.out.size)
      have HO3 := Lib.hid (own_go HO2.out hb3)
      have hk3 := (hb3.block _ hlw).trans HK2.out
      have hlw3 := hb3.size
      clear d0 d1 d2 d3 p0 p1 p2 p3
      obtain ⟨d0, d1, d2, d3⟩ := cells4 hk3
      clear hb3 hk3 HK2
      cases hf : tru (x1, x2, x3) with
      | true =>
        rw [hf, if_pos rfl] at HTK
        have D3 : Hid (T.length + 1 ≤ maxLen) := by show _ ≤ _; unfold maxLen; omega
        have D4 : Hid ((T.length + 1) * 48 ≤ 140737488355328) := by show _ ≤ _; omega
        obtain ⟨WB, hWB, hkB, hbB⟩ := new4 w3 (.int .i64 x0) (.string x1) (.string x2) (.bool x3) 57
        have HOB := Lib.hid (own_go HO3.out hbB)
        have HWB := Lib.hid hWB
        have HC : Hid (∀ i u, (encE (x0, x1, x2, x3))[i]? = some u → WB.cell? ((⟨w3.heap.size, 0, none⟩ : Addr).add i) = some u) := ent_cell (x := (x0, x1, x2, x3)) hkB
        have HBB : Hid (Below w1.heap.size w1 WB) := HB3.out.trans (hbB.mono HB3.out.size)
        have D5 : Hid (w1.heap.size ≤ WB.heap.size) := HBB.out.size
        have DE := Lib.hid (encE_ok (x0, x1, x2, x3))
        clear hWB hkB hbB
        go_wp2_with (at_builtin; rw [← HWB.out]; refine wpList_append_own _ rfl _ _ 37 rfl w1.heap.size 57 i0 _ 4 48 Try.underlying37 hi hz0 hz1 hz2 rfl (by decide) _ _ _ rfl HOB.out ⟨w3.heap.size, 0, none⟩ 1 1 (encE (x0, x1, x2, x3)) rfl rfl HC.out DE.out D3.out D4.out D5.out ?_)
        intro v4 V4 hown hgrow _
        have HBV : Hid (Below w1.heap.size w1 V4) := HBB.out.grown hgrow HBB.out.size (fun q hq => (HOB.out.lt q hq).1)
        have HOV : Hid (V4.ownsRow w1.heap.size 57 4 v4 ((b.take (j + 1)).filter fun x => tru x.2).length (eC ((b.take (j + 1)).filter fun x => tru x.2))) := by
          show World.ownsRow _ _ _ _ _ _ _
          rw [HTK.out, eC_snoc, List.length_append]
          exact hown
        obtain ⟨ap, cq, hv4⟩ := own_form hown
        subst hv4
        clear hown hgrow
        go_wp2
        go_roundw
        case rel => exact ⟨j + 1, by omega, by go_num, HOV, HBV⟩
        case measure => simp [intOf]; omega
      | false => exact absurd hf (by unfold tru; decide)
    · have hjl : ¬ (j : Int) < (b.length : Int) := by omega
      have hjj : j = b.length := by omega
      rw [hjj, List.take_of_length_le (Nat.le_refl _)] at HO
      have HRD := Lib.hid (own_rd HO.out)
      have HNW := Lib.hid (nwb_own HO.out HB1.out.size)
      have HBW : Hid (Below w.heap.size w wr) := HB1.out.trans (HB.out.mono HB1.out.size)
      rw [hjj, List.take_of_length_le (Nat.le_refl _)]
      clear HO hj hlt
      go_wp2
      exact bodyPost_ret (v := .tuple #[.slice aot ((b.filter fun x => tru x.2)).length capt, .int .i64 la, .int .i64 0]) (by simp [results, Try.results18, go_sem]) rfl ⟨_, rfl, HRD.out, HBW.out, HNW.out⟩
end Go.Proofs.Ytcmcbocegdejjaa.Cl
