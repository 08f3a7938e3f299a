/- The contract of package jtok's text: the token of the text whose first quote stands at a place; for every text of at most a thousand bytes; where the tables lie as the program's text lays them. -/
import Derived.Test.YtpgllcdcpdeicaaGreatDoorJtBld
namespace Go.Proofs.YtpgllcdcpdeicaaGreatDoor.Jt
open Go.RowKit
set_option linter.unusedSimpArgs false
set_option linter.unusedVariables false

theorem hex_len {l : List UInt8} {k : Nat} (h : 0 ≤ hexA l k) : k + 4 ≤ l.length := by
  unfold hexA at h
  by_cases g : l.length < k + 4
  · rw [if_pos g] at h; omega
  · omega
theorem back_le (l : List UInt8) (k : Nat) : (backL l k).2 ≠ 0 → k + (backL l k).2 ≤ l.length := by
  unfold backL
  intro h
  repeat' split at h
  all_goals first
    | exact absurd rfl h
    | skip
  · rename_i h1 h2
    rw [if_neg h1, if_pos h2]; show k + 2 ≤ _; omega
  · rename_i h1 h2 h3 h4
    rw [if_neg h1, if_neg h2, if_neg h3, if_pos h4]
    have := hex_len (l := l) (k := k + 8) (by omega)
    show k + 12 ≤ _; omega
  · rename_i h1 h2 h3 h4 h5
    rw [if_neg h1, if_neg h2, if_neg h3, if_neg h4, if_pos h5]
    have := hex_len (l := l) (k := k + 2) (by omega)
    show k + 6 ≤ _; omega
theorem putI_len4 (v : Int) : (bl (Ut.putI v)).length ≤ 4 := by rw [bl_len]; exact (Ut.putI_len v).2
theorem back_len (l : List UInt8) (k : Nat) : (backL l k).1.length ≤ 4 * (backL l k).2 := by
  unfold backL
  repeat' split
  all_goals first
    | (simp; done)
    | (show (bl _).length ≤ _; have := putI_len4 (65536 + (hexA l (k + 2) - 55296) * 1024 + hexA l (k + 8) - 56320); omega)
    | (show (bl _).length ≤ _; have := putI_len4 (hexA l (k + 2)); omega)
theorem piece_le {l : List UInt8} {k : Nat} (hk : k ≤ l.length) (h : (pieceL l k).2 ≠ 0) : k + (pieceL l k).2 ≤ l.length := by
  unfold pieceL at h ⊢
  by_cases h1 : at0 l k = 92
  · rw [if_pos h1] at h ⊢; exact back_le l k h
  · rw [if_neg h1] at h ⊢
    by_cases h2 : k < endP plnB l k ∧ vldB (cutL l k (endP plnB l k)) = true
    · rw [if_pos h2]; have := endP_le (p := plnB) hk; show k + (endP plnB l k - k) ≤ _; omega
    · rw [if_neg h2] at h; exact absurd rfl h
theorem piece_len {l : List UInt8} {k : Nat} (hk : k ≤ l.length) : (pieceL l k).1.length ≤ 4 * (pieceL l k).2 := by
  unfold pieceL
  by_cases h1 : at0 l k = 92
  · rw [if_pos h1]; exact back_len l k
  · rw [if_neg h1]
    by_cases h2 : k < endP plnB l k ∧ vldB (cutL l k (endP plnB l k)) = true
    · rw [if_pos h2]; show (cutL l k (endP plnB l k)).length ≤ 4 * (endP plnB l k - k); rw [cutL_len (endP_le hk)]; omega
    · rw [if_neg h2]; simp
theorem pcp_out0 {k : Nat} {r : List UInt8 × Nat} {w : World} {e : Ending} {w' : World} (h : PcP k r w e w') (hz : r.2 = 0) : (∃ t j, e = tup3 t j false) ∧ Below w.heap.size w w' := by unfold PcP at h; rw [if_pos hz] at h; exact h
theorem pcp_out1 {k : Nat} {r : List UInt8 × Nat} {w : World} {e : Ending} {w' : World} (h : PcP k r w e w') (hz : r.2 ≠ 0) : e = tup3 (mkS r.1) ((k : Int) + (r.2 : Nat)) true ∧ Below w.heap.size w w' := by unfold PcP at h; rw [if_neg hz] at h; exact h
def TxP (l : List UInt8) (p : Nat) (w : World) (e : Ending) (w' : World) : Prop :=
  (match textA l (p + 1) with | none => e = tupV (tokV 0 0 0 emS 0) (fltV p 3) | some r => e = tupV (tokV 7 p (r.2 : Nat) (mkS r.1) 0) .nilIface) ∧ Below w.heap.size w w'
theorem txp_no {l : List UInt8} {p : Nat} {w : World} {e : Ending} {w' : World} (h : textA l (p + 1) = none) (g : e = tupV (tokV 0 0 0 emS 0) (fltV p 3) ∧ Below w.heap.size w w') : TxP l p w e w' := by unfold TxP; rw [h]; exact g
theorem txp_yes {l : List UInt8} {p k : Nat} {t : List UInt8} {w : World} {e : Ending} {w' : World} (h : textA l (p + 1) = some (t, k)) (g : e = tupV (tokV 7 p (k : Nat) (mkS t) 0) .nilIface ∧ Below w.heap.size w w') : TxP l p w e w' := by unfold TxP; rw [h]; exact g
/-- what the loop keeps -/
def TxR (l : List UInt8) (p : Nat) (w : World) (v : Value) (wr : World) : Prop := ∃ (k : Nat) (acc : List UInt8), v = .int .i64 k ∧ k ≤ l.length ∧ p + 1 ≤ k ∧ acc.length ≤ 4 * k ∧ Bld (w.heap.size + 1) acc wr ∧
  wr.heap[w.heap.size]? = some (.cells #[.int .i64 0, .int .i64 0, .int .i64 0, .string ⟨#[]⟩, .int .i64 0] 60 (0, 0)) ∧ Below w.heap.size w wr ∧ textA l (p + 1) = (textA l k).map fun r => (acc ++ r.1, r.2)
set_option maxRecDepth 100000 in
set_option maxHeartbeats 8000000 in
theorem text_c (s : ByteArray) (p : Nat) (w : World) (hT : Ut.Tabs w) (hs : s.size ≤ 1000) (hp : p < s.size) :
    Calls Tryz.prog 58 #[.string s, .int .i64 (p : Int)] w (TxP s.data.toList p w) := by
  have hsl := Lib.hid (size_l s)
  have HT := Lib.hid hT
  clear hT
  have HST : Hid (TxR s.data.toList p w (.int .i64 ((p : Int) + 1)) ((w.alloc (.cells #[.int .i64 0, .int .i64 0, .int .i64 0, .string ⟨#[]⟩, .int .i64 0] 60)).alloc (.cells #[.pointer none, .slice none 0 0] 145))) := by
    refine ⟨p + 1, [], by go_num, by rw [← hsl.out]; omega, Nat.le_refl _, by simp, ?_, ?_, ((Below.refl _ _).alloc (Nat.le_refl _) _).alloc (by simp) _, ?_⟩
    · have := Bld.new (w.alloc (.cells #[.int .i64 0, .int .i64 0, .int .i64 0, .string ⟨#[]⟩, .int .i64 0] 60))
      rw [show (w.alloc (.cells #[.int .i64 0, .int .i64 0, .int .i64 0, .string ⟨#[]⟩, .int .i64 0] 60)).heap.size = w.heap.size + 1 by simp] at this
      exact this
    · exact (Below.heap_alloc _ _ _ (by simp)).trans (heap_alloc_new w _)
    · cases textA s.data.toList (p + 1) <;> simp
  go_enter Tryz.func58, Tryz.ntmps58
  go_wp2
  go_loopw [7] (fun v wr => TxR s.data.toList p w v wr) (fun v _ => s.size - (intOf v).toNat)
  case atStart => exact HST.out
  case round =>
    clear HST
    obtain ⟨k, acc, rfl, hk, hpk, hacc, hbld, hblk, hB, htx⟩ := hrel
    rw [← hsl.out] at hk
    have HBLD := Lib.hid hbld
    have HBK := Lib.hid hblk
    have HB := Lib.hid hB
    have HTX := Lib.hid htx
    have HTW : Hid (Ut.Tabs wr) := HT.out.below HB.out HT.out.two
    have hlw : w.heap.size + 1 < wr.heap.size := hbld.lt
    clear hbld hblk hB htx
    have c0 : wr.cell? ⟨w.heap.size, 0, none⟩ = some (.int .i64 0) := Ut.blk_cell HBK.out 0
    have c1 : wr.cell? ⟨w.heap.size, 1, none⟩ = some (.int .i64 0) := Ut.blk_cell HBK.out 1
    have c2 : wr.cell? ⟨w.heap.size, 2, none⟩ = some (.int .i64 0) := Ut.blk_cell HBK.out 2
    have c3 : wr.cell? ⟨w.heap.size, 3, none⟩ = some (.string ⟨#[]⟩) := Ut.blk_cell HBK.out 3
    have c4 : wr.cell? ⟨w.heap.size, 4, none⟩ = some (.int .i64 0) := Ut.blk_cell HBK.out 4
    have z0 : wr.frozen? ⟨w.heap.size, 0, none⟩ = false := Ut.blk_frz HBK.out 0
    have z1 : wr.frozen? ⟨w.heap.size, 1, none⟩ = false := Ut.blk_frz HBK.out 1
    have z2 : wr.frozen? ⟨w.heap.size, 2, none⟩ = false := Ut.blk_frz HBK.out 2
    have z3 : wr.frozen? ⟨w.heap.size, 3, none⟩ = false := Ut.blk_frz HBK.out 3
    have z4 : wr.frozen? ⟨w.heap.size, 4, none⟩ = false := Ut.blk_frz HBK.out 4
    by_cases hlt : k < s.size
    · have hlt' : (k : Int) < (s.size : Int) := by omega
      by_cases hq : at0 s.data.toList k = 34
      · have q : ((s[k].toNat : Int) == 34) = true := by rw [byte_q s k hlt, hq]; rfl
        have HR : Hid (textA s.data.toList (p + 1) = some (acc, k + 1)) := by
          show textA s.data.toList (p + 1) = _
          rw [HTX.out, text_quote (by rw [← hsl.out]; exact hlt) hq]; simp
        have HSTR := Lib.hid (str_c (w.heap.size + 1) acc wr HBLD.out)
        clear hq
        go_wp2_with fail
        refine HSTR.out.mono ?_
        rintro e w2 ⟨rfl, hb2⟩
        have HB2 := Lib.hid hb2
        have HBK2 : Hid (w2.heap[w.heap.size]? = some (.cells #[.int .i64 0, .int .i64 0, .int .i64 0, .string ⟨#[]⟩, .int .i64 0] 60 (0, 0))) := (hb2.block _ (by omega)).trans HBK.out
        clear c0 c1 c2 c3 c4 z0 z1 z2 z3 z4 hb2
        have c0 : w2.cell? ⟨w.heap.size, 0, none⟩ = some (.int .i64 0) := Ut.blk_cell HBK2.out 0
        have c1 : w2.cell? ⟨w.heap.size, 1, none⟩ = some (.int .i64 0) := Ut.blk_cell HBK2.out 1
        have c2 : w2.cell? ⟨w.heap.size, 2, none⟩ = some (.int .i64 0) := Ut.blk_cell HBK2.out 2
        have c3 : w2.cell? ⟨w.heap.size, 3, none⟩ = some (.string ⟨#[]⟩) := Ut.blk_cell HBK2.out 3
        have c4 : w2.cell? ⟨w.heap.size, 4, none⟩ = some (.int .i64 0) := Ut.blk_cell HBK2.out 4
        have z0 : w2.frozen? ⟨w.heap.size, 0, none⟩ = false := Ut.blk_frz HBK2.out 0
        have z1 : w2.frozen? ⟨w.heap.size, 1, none⟩ = false := Ut.blk_frz HBK2.out 1
        have z2 : w2.frozen? ⟨w.heap.size, 2, none⟩ = false := Ut.blk_frz HBK2.out 2
        have z3 : w2.frozen? ⟨w.heap.size, 3, none⟩ = false := Ut.blk_frz HBK2.out 3
        have z4 : w2.frozen? ⟨w.heap.size, 4, none⟩ = false := Ut.blk_frz HBK2.out 4
        go_wp2
        refine bodyPost_ret (v := .tuple #[tokV 7 p ((k : Int) + 1) (mkS acc) 0, .nilIface]) (by simp [results, Tryz.results58, go_sem, tokV, c0, c1, c2, c3, c4]) rfl (txp_yes HR.out ⟨rfl, ?_⟩)
        have hBB : Below w.heap.size w w2 := HB.out.trans (HB2.out.mono (by omega))
        (repeat (first | exact hBB | refine Below.alloc ?_ (by first | (simp; done) | (simp; omega)) _ | refine Below.setCell ?_ (by first | (simp; done) | (simp; omega)) _))
      · have q : ((s[k].toNat : Int) == 34) = false := by rw [byte_q s k hlt, decide_eq_false hq]
        have HPC0 := Lib.hid (piece_c s k wr HTW.out hs hlt)
        have hlk : k < s.data.toList.length := by rw [← hsl.out]; exact hlt
        by_cases hz : (pieceL s.data.toList k).2 = 0
        · have HR : Hid (textA s.data.toList (p + 1) = none) := by
            show textA s.data.toList (p + 1) = _
            rw [HTX.out, piece_bad hlk hq hz]; rfl
          have HPC := Lib.hid (HPC0.out.mono fun e w' g => pcp_out0 g hz)
          clear hq hz HPC0
          go_wp2_with fail
          refine HPC.out.mono ?_
          rintro e w2 ⟨⟨t, j, rfl⟩, hb2⟩
          have HB2 := Lib.hid hb2
          have HBK2 : Hid (w2.heap[w.heap.size]? = some (.cells #[.int .i64 0, .int .i64 0, .int .i64 0, .string ⟨#[]⟩, .int .i64 0] 60 (0, 0))) := (hb2.block _ (by omega)).trans HBK.out
          clear c0 c1 c2 c3 c4 z0 z1 z2 z3 z4 hb2
          have c0 : w2.cell? ⟨w.heap.size, 0, none⟩ = some (.int .i64 0) := Ut.blk_cell HBK2.out 0
          have c1 : w2.cell? ⟨w.heap.size, 1, none⟩ = some (.int .i64 0) := Ut.blk_cell HBK2.out 1
          have c2 : w2.cell? ⟨w.heap.size, 2, none⟩ = some (.int .i64 0) := Ut.blk_cell HBK2.out 2
          have c3 : w2.cell? ⟨w.heap.size, 3, none⟩ = some (.string ⟨#[]⟩) := Ut.blk_cell HBK2.out 3
          have c4 : w2.cell? ⟨w.heap.size, 4, none⟩ = some (.int .i64 0) := Ut.blk_cell HBK2.out 4
          have z0 : w2.frozen? ⟨w.heap.size, 0, none⟩ = false := Ut.blk_frz HBK2.out 0
          have z1 : w2.frozen? ⟨w.heap.size, 1, none⟩ = false := Ut.blk_frz HBK2.out 1
          have z2 : w2.frozen? ⟨w.heap.size, 2, none⟩ = false := Ut.blk_frz HBK2.out 2
          have z3 : w2.frozen? ⟨w.heap.size, 3, none⟩ = false := Ut.blk_frz HBK2.out 3
          have z4 : w2.frozen? ⟨w.heap.size, 4, none⟩ = false := Ut.blk_frz HBK2.out 4
          unfold tup3
          go_wp2
          refine bodyPost_ret (v := .tuple #[tokV 0 0 0 emS 0, fltV p 3]) (by simp [results, Tryz.results58, go_sem, tokV, fltV, emS, c0, c1, c2, c3, c4]) rfl (txp_no HR.out ⟨rfl, ?_⟩)
          have hBB : Below w.heap.size w w2 := HB.out.trans (HB2.out.mono (by omega))
          (repeat (first | exact hBB | refine Below.alloc ?_ (by first | (simp; done) | (simp; omega)) _ | refine Below.setCell ?_ (by first | (simp; done) | (simp; omega)) _))
        · have hstep := piece_step hlk hq hz
          have hle := piece_le (l := s.data.toList) (k := k) (by omega) hz
          have hln := piece_len (l := s.data.toList) (k := k) (by omega)
          have HPC := Lib.hid (HPC0.out.mono fun e w' g => pcp_out1 g hz)
          clear HPC0
          rw [← hsl.out] at hle
          have HR : Hid (textA s.data.toList (p + 1) = (textA s.data.toList (k + (pieceL s.data.toList k).2)).map fun r => ((acc ++ (pieceL s.data.toList k).1) ++ r.1, r.2)) := by
            show textA s.data.toList (p + 1) = _
            rw [HTX.out, hstep, map_app]
          clear hq hstep HTX
          revert HPC HR hz hle hln
          generalize pieceL s.data.toList k = pc
          intro hz hle hln HPC HR
          obtain ⟨x, n⟩ := pc
          simp only at hz hle hln HPC HR
          have HWS := Lib.hid (fun (W : World) (hb : Bld (w.heap.size + 1) acc W) => wstr_c (w.heap.size + 1) acc (mkS x) W hb (by rw [size_mkS]; omega))
          go_wp2_with fail
          refine HPC.out.mono ?_
          rintro e w2 ⟨rfl, hb2⟩
          have HB2 := Lib.hid hb2
          have HS2 := Lib.hid (HWS.out w2 (HBLD.out.go hb2))
          clear hb2 c0 c1 c2 c3 c4 z0 z1 z2 z3 z4
          unfold tup3
          go_wp2_with fail
          refine HS2.out.mono ?_
          rintro e w3 ⟨rfl, hbl3, hb3⟩
          have HB3 := Lib.hid hb3
          have HBL3 := Lib.hid hbl3
          clear hb3 hbl3
          go_wp2
          go_roundw
          case rel =>
            have hBB : Below w.heap.size w w2 := HB.out.trans (HB2.out.mono (by omega))
            have hs2 := HB2.out.size
            exact ⟨k + n, acc ++ x, by go_num, by rw [← hsl.out]; omega, by omega, by rw [List.length_append]; omega, HBL3.out, (HB3.out.block _ (by omega)).trans ((HB2.out.block _ (by omega)).trans HBK.out), hBB.trans (HB3.out.mono (by omega)), HR.out⟩
          case measure => simp [intOf]; omega
    · have HR : Hid (textA s.data.toList (p + 1) = none) := by
        show textA s.data.toList (p + 1) = _
        rw [HTX.out, text_end (by rw [← hsl.out]; omega)]; rfl
      go_wp2
      refine bodyPost_ret (v := .tuple #[tokV 0 0 0 emS 0, fltV p 3]) (by simp [results, Tryz.results58, go_sem, tokV, fltV, emS, c0, c1, c2, c3, c4]) rfl (txp_no HR.out ⟨rfl, ?_⟩)
      (repeat (first | exact HB.out | refine Below.alloc ?_ (by first | (simp; done) | (simp; omega)) _ | refine Below.setCell ?_ (by first | (simp; done) | (simp; omega)) _))
end Go.Proofs.YtpgllcdcpdeicaaGreatDoor.Jt
