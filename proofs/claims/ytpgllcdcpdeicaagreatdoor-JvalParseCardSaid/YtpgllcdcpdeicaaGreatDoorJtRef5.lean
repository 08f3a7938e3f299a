/- The contract of the document's Next (the token at a place): for every text of at most a thousand bytes, every place in it. -/
import Derived.Test.YtpgllcdcpdeicaaGreatDoorJtRef4
import Derived.Test.YtpgllcdcpdeicaaGreatDoorJtPub
import Derived.Lib.SlBytesConst
namespace Go.Proofs.YtpgllcdcpdeicaaGreatDoor.Jt
open Go.RowKit
set_option linter.unusedSimpArgs false
set_option linter.unusedVariables false

def sgnL : List Int := [123, 125, 91, 93, 58, 44]
theorem sgn_at : ∀ j : Fin 6, sgnI (sgnL.getD j.val 0) = j.val + 1 := by decide +kernel
theorem sgn_no (c : Int) (h : ∀ j, j < 6 → sgnL.getD j 0 ≠ c) : sgnI c = 0 := by
  have h0 := h 0 (by omega); have h1 := h 1 (by omega); have h2 := h 2 (by omega)
  have h3 := h 3 (by omega); have h4 := h 4 (by omega); have h5 := h 5 (by omega)
  simp only [sgnL, List.getD_cons_zero, List.getD_cons_succ] at h0 h1 h2 h3 h4 h5
  unfold sgnI
  rw [if_neg (by omega), if_neg (by omega), if_neg (by omega), if_neg (by omega), if_neg (by omega), if_neg (by omega)]
def sgnV : Array Value := #[.int .u8 123, .int .u8 125, .int .u8 91, .int .u8 93, .int .u8 58, .int .u8 44]
theorem sgnV_at (k : Nat) (hk : k < 6) : sgnV[k]? = some (.int .u8 (sgnL.getD k 0)) := by
  match k, hk with
  | 0, _ => rfl
  | 1, _ => rfl
  | 2, _ => rfl
  | 3, _ => rfl
  | 4, _ => rfl
  | 5, _ => rfl
def wrdL : List (List UInt8) := [trueL, falseL, nullL]
def wrdV : Array Value := #[.string ⟨#[116, 114, 117, 101]⟩, .string ⟨#[102, 97, 108, 115, 101]⟩, .string ⟨#[110, 117, 108, 108]⟩]
theorem wrdV_at (k : Nat) (hk : k < 3) : wrdV[k]? = some (.string (mkS (wrdL.getD k []))) := by
  match k, hk with
  | 0, _ => rfl
  | 1, _ => rfl
  | 2, _ => rfl
theorem wrd_at : ∀ j : Fin 3, wrdK (wrdL.getD j.val []) = 9 + j.val := by decide +kernel
theorem wrd_no (l : List UInt8) (h : ∀ j, j < 3 → l ≠ wrdL.getD j []) : wrdK l = 0 := by
  have h0 := h 0 (by omega); have h1 := h 1 (by omega); have h2 := h 2 (by omega)
  simp only [wrdL, List.getD_cons_zero, List.getD_cons_succ] at h0 h1 h2
  unfold wrdK; rw [if_neg h0, if_neg h1, if_neg h2]
set_option maxRecDepth 100000 in
set_option maxHeartbeats 16000000 in
theorem nextR_r (s : ByteArray) (a tk ta tb : Nat) (tt : List UInt8) (tn te : Int) (w : World) (hs : s.size ≤ 1000) (ha : a ≤ s.size) (HR : Hid (tokA s.data.toList a = (⟨tk, ta, tb, tt, tn⟩, te))) :
    Calls Tryz.prog 13 #[.string s, .int .i64 (a : Int)] w fun e w' => e = ret2 (tokV tk ta tb (mkS tt) tn) te ∧ Below w.heap.size w w' := by
  have hsl := Lib.hid (size_l s)
  have kc : (convert 82 82 (.slice (some ⟨w.heap.size + 1, 0, none⟩) 6 6)).run Tryz.prog ((w.alloc (.cells #[.int .i64 0, .int .i64 0, .int .i64 0, .string ⟨#[]⟩, .int .i64 0] 54)).alloc (.cells #[.int .u8 123, .int .u8 125, .int .u8 91, .int .u8 93, .int .u8 58, .int .u8 44] 5))
      = .ok (.slice (some ⟨w.heap.size + 1, 0, none⟩) 6 6) ((w.alloc (.cells #[.int .i64 0, .int .i64 0, .int .i64 0, .string ⟨#[]⟩, .int .i64 0] 54)).alloc (.cells #[.int .u8 123, .int .u8 125, .int .u8 91, .int .u8 93, .int .u8 58, .int .u8 44] 5 (6, 7))) := by
    have := Lib.run_convert_bytes_const (P := Tryz.prog) (w.alloc (.cells #[.int .i64 0, .int .i64 0, .int .i64 0, .string ⟨#[]⟩, .int .i64 0] 54)) 82 5 #[.int .u8 123, .int .u8 125, .int .u8 91, .int .u8 93, .int .u8 58, .int .u8 44] 6 6 Tryz.underlying82 Tryz.underlying5
    simpa using this
  have HW1 : Hid (∃ W1 g, W1 = (w.alloc (.cells #[.int .i64 0, .int .i64 0, .int .i64 0, .string ⟨#[]⟩, .int .i64 0] 54)).alloc (.cells #[.int .u8 123, .int .u8 125, .int .u8 91, .int .u8 93, .int .u8 58, .int .u8 44] 5 (6, 7)) ∧ g = w.heap.size + 1 ∧
      W1.heap[w.heap.size]? = some (.cells #[.int .i64 0, .int .i64 0, .int .i64 0, .string ⟨#[]⟩, .int .i64 0] 54 (0, 0)) ∧ W1.heap[g]? = some (.cells sgnV 5 (6, 7)) ∧ Below w.heap.size w W1 ∧ w.heap.size < g) := by
    refine ⟨_, _, rfl, rfl, (Below.heap_alloc _ _ _ (by simp)).trans (heap_alloc_new w _), ?_, ((Below.refl _ _).alloc (Nat.le_refl _) _).alloc (by simp) _, by omega⟩
    have := heap_alloc_new (w.alloc (.cells #[.int .i64 0, .int .i64 0, .int .i64 0, .string ⟨#[]⟩, .int .i64 0] 54)) (.cells #[.int .u8 123, .int .u8 125, .int .u8 91, .int .u8 93, .int .u8 58, .int .u8 44] 5 (6, 7))
    simpa [sgnV] using this
  go_enter Tryz.func13, Tryz.ntmps13
  go_wp2
  go_loop [1] (fun i => ∃ k : Nat, k ≤ s.size ∧ i = .int .i64 k ∧ endP blkB s.data.toList k = endP blkB s.data.toList a) (fun i => s.size - (intOf i).toNat)
  case atStart => exact ⟨a, ha, rfl, rfl⟩
  case round =>
    obtain ⟨k, hk, rfl, hal⟩ := hrel
    have HA := Lib.hid hal
    clear hal
    by_cases hlt : k < s.size
    rotate_left
    · have hks : k = s.size := by omega
      have HTK : Hid (tokA s.data.toList a = (zT, 6)) := tokA_end (by rw [← HA.out, endP_end (by rw [← hsl.out]; omega), hks, hsl.out])
      have HR2 := HR
      have hlt' : ¬ (k : Int) < (s.size : Int) := by omega
      have hge : (s.size : Int) ≤ (k : Int) := by omega
      have hR2 := HR2.out
      rw [HTK.out] at hR2
      (try unfold zT at hR2)
      simp only [Prod.mk.injEq, Tok.mk.injEq] at hR2
      obtain ⟨⟨rfl, rfl, rfl, rfl, rfl⟩, rfl⟩ := hR2
      clear HR HR2 HTK HA hks HW1 kc
      go_wp2
      refine bodyPost_ret (v := .tuple #[.agg #[.int .i64 0, .int .i64 0, .int .i64 0, .string ⟨#[]⟩, .int .i64 0], .int .i64 6]) (by simp [results, Tryz.results13, go_sem]) rfl ⟨rfl, ?_⟩
      (repeat (first | exact Below.refl _ _ | refine Below.alloc ?_ (by first | (simp; done) | (simp; omega)) _ | refine Below.setCell ?_ (by first | (simp; done) | (simp; omega)) _))
    have hl : k < s.data.toList.length := by rw [← hsl.out]; exact hlt
    have HY := Lib.hid (@endP_yes blkB s.data.toList k hl)
    have HN := Lib.hid (@endP_no blkB s.data.toList k hl)
    have he : blkB s.data.toList[k] = blkI (s[k].toNat : Int) := by rw [data_at hlt hl]; rfl
    rw [he] at HY HN
    have HC := Lib.hid (fun W => blank_r (s[k].toNat : Int) W)
    clear he
    cases hb : blkI (s[k].toNat : Int) with
    | true =>
      rw [hb] at HC HY HN
      have HZ := Lib.hid (HY.out rfl)
      clear hb HY HN
      go_wp2_with (go_at_call 27; refine (HC.out _).mono ?_; rintro e w' ⟨rfl, rfl⟩)
      go_round
      case rel => exact ⟨k + 1, by omega, by go_num, by rw [HZ.out]; exact HA.out⟩
      case measure => simp [intOf]; omega
    | false =>
      rw [hb] at HC HY HN
      have HZ := Lib.hid (HN.out rfl)
      have HTK : Hid (tokA s.data.toList a = tokP s.data.toList k) := tokA_at (by rw [← HA.out, HZ.out]) hl
      have HR2 : Hid (tokP s.data.toList k = (⟨tk, ta, tb, tt, tn⟩, te)) := by show tokP s.data.toList k = _; rw [← HTK.out]; exact HR.out
      have HBL := Lib.hid (fun W => HC.out W)
      have hlt' : (k : Int) < (s.size : Int) := by omega
      have hge : ¬ (s.size : Int) ≤ (k : Int) := by omega
      have hgd : decide (s.size ≤ k) = false := by simp; omega
      have HBI := Lib.hid (byte_i s k hlt)
      clear hb HY HN HC HZ HA HTK HR
      go_wp2_with (go_at_call 27; refine (HBL.out _).mono ?_; rintro e w' ⟨rfl, rfl⟩)
      clear kc HBL
      obtain ⟨W1, g, hW1, hg, hkg, hks, hBW, hgl⟩ := HW1.out
      rw [← hW1, ← hg]
      clear hW1 hg HW1
      have HKG := Lib.hid hkg
      have HKS := Lib.hid hks
      have HBW := Lib.hid hBW
      have hgW : g < W1.heap.size := (Array.getElem?_eq_some_iff.1 hks).1
      clear hkg hks hBW
      go_loop [36] (fun i => ∃ j : Nat, j ≤ 6 ∧ i = .int .i64 j ∧ ∀ t, t < j → sgnL.getD t 0 ≠ at0 s.data.toList k) (fun i => 6 - (intOf i).toNat)
      case atStart => exact ⟨0, by omega, rfl, fun t ht => by omega⟩
      case round =>
        obtain ⟨j, hj, rfl, hno⟩ := hrel
        have HNO := Lib.hid hno
        clear hno
        by_cases hj6 : j < 6
        · have cj : W1.cell? ⟨g, j, none⟩ = some (.int .u8 (sgnL.getD j 0)) := (Ut.blk_cell HKS.out j).trans (sgnV_at j hj6)
          have hsa := sgn_at ⟨j, hj6⟩
          simp only at hsa
          have hj6' : (j : Int) < 6 := by omega
          have hj0 : (0 : Int) ≤ (j : Int) := by omega
          by_cases hit : sgnL.getD j 0 = at0 s.data.toList k
          · have q : ((s[k].toNat : Int) == sgnL.getD j 0) = true := by rw [HBI.out, hit]; simp
            have hT : tokP s.data.toList k = (⟨j + 1, k, k + 1, [], 0⟩, 0) := by unfold tokP; rw [← hit, hsa, if_pos (by omega)]
            have hR2 := HR2.out
            rw [hT] at hR2
            (try unfold zT at hR2)
            simp only [Prod.mk.injEq, Tok.mk.injEq] at hR2
            obtain ⟨⟨rfl, rfl, rfl, rfl, rfl⟩, rfl⟩ := hR2
            clear hT hsa hit HR2
            revert cj q
            generalize sgnL.getD j 0 = c
            intro cj q
            have c0 := Ut.blk_cell HKG.out 0
            have c1 := Ut.blk_cell HKG.out 1
            have c2 := Ut.blk_cell HKG.out 2
            have c3 := Ut.blk_cell HKG.out 3
            have c4 := Ut.blk_cell HKG.out 4
            have z0 := Ut.blk_frz HKG.out 0
            have z1 := Ut.blk_frz HKG.out 1
            have z2 := Ut.blk_frz HKG.out 2
            have z3 := Ut.blk_frz HKG.out 3
            have z4 := Ut.blk_frz HKG.out 4
            go_wp2
            have H5 := Ut.five HKG.out (.int .i64 ((j : Int) + 1)) (.int .i64 k) (.int .i64 ((k : Int) + 1)) (.string ⟨#[]⟩) (.int .i64 0)
            have d0 := Ut.blk_cell H5 0
            have d1 := Ut.blk_cell H5 1
            have d2 := Ut.blk_cell H5 2
            have d3 := Ut.blk_cell H5 3
            have d4 := Ut.blk_cell H5 4
            clear c0 c1 c2 c3 c4 z0 z1 z2 z3 z4
            refine bodyPost_ret (v := .tuple #[.agg #[.int .i64 ((j : Int) + 1), .int .i64 k, .int .i64 ((k : Int) + 1), .string ⟨#[]⟩, .int .i64 0], .int .i64 0]) (by simp [results, Tryz.results13, go_sem, d0, d1, d2, d3, d4]) rfl ⟨rfl, ?_⟩
            (repeat (first | exact HBW.out | refine Below.alloc ?_ (by first | (simp; done) | (simp; omega)) _ | refine Below.setCell ?_ (by first | (simp; done) | (simp; omega)) _))
          · have q : ((s[k].toNat : Int) == sgnL.getD j 0) = false := by rw [HBI.out]; simpa using fun g => hit g.symm
            have HIT := Lib.hid hit
            clear hsa hit
            revert cj q HIT
            generalize hc : sgnL.getD j 0 = c
            have HC := Lib.hid hc
            clear hc
            intro cj q HIT
            go_wp2
            go_round
            case rel =>
              refine ⟨j + 1, by omega, by go_num, fun t ht => ?_⟩
              by_cases e : t = j
              · subst e; rw [HC.out]; exact HIT.out
              · exact HNO.out t (by omega)
            case measure => simp [intOf]; omega
        · have hj7 : j = 6 := by omega
          subst hj7
          have hs0 := sgn_no _ HNO.out
          clear HNO
          by_cases h34 : at0 s.data.toList k = 34
          · have q34 : ((s[k].toNat : Int) == 34) = true := by rw [byte_q s k hlt, h34]; rfl
            have hT : tokP s.data.toList k = match textA s.data.toList (k + 1) with | none => (zT, 3) | some r => (⟨7, k, r.2, r.1, 0⟩, 0) := by
              unfold tokP; rw [h34, if_neg (by decide), if_pos rfl]; rfl
            have HX := Lib.hid (textr_c s (k + 1) W1 hs (by omega))
            have ec : ((k + 1 : Nat) : Int) = (k : Int) + 1 := by omega
            rw [ec] at HX
            clear ec hs0 h34
            cases hx : textA s.data.toList (k + 1) with
            | none =>
              rw [hx] at hT
              have HX2 := Lib.hid (HX.out.mono fun e w' g => (show e = .returned (.tuple #[.string ⟨#[]⟩, .int .i64 (-1)]) ∧ Below W1.heap.size W1 w' by unfold TrP at g; rw [hx] at g; exact g))
              have hR2 := HR2.out
              rw [hT] at hR2
              (try unfold zT at hR2)
              simp only [Prod.mk.injEq, Tok.mk.injEq] at hR2
              obtain ⟨⟨rfl, rfl, rfl, rfl, rfl⟩, rfl⟩ := hR2
              clear hT HR2 HX hx
              go_wp2_with fail
              refine HX2.out.mono ?_
              rintro e w2 ⟨rfl, hb2⟩
              have HK2 : Hid (w2.heap[w.heap.size]? = some (.cells #[.int .i64 0, .int .i64 0, .int .i64 0, .string ⟨#[]⟩, .int .i64 0] 54 (0, 0))) := (hb2.block _ (by omega)).trans HKG.out
              have HB2 : Hid (Below w.heap.size w w2) := HBW.out.trans (hb2.mono HBW.out.size)
              clear hb2
              have c0 := Ut.blk_cell HK2.out 0
              have c1 := Ut.blk_cell HK2.out 1
              have c2 := Ut.blk_cell HK2.out 2
              have c3 := Ut.blk_cell HK2.out 3
              have c4 := Ut.blk_cell HK2.out 4
              have z0 := Ut.blk_frz HK2.out 0
              have z1 := Ut.blk_frz HK2.out 1
              have z2 := Ut.blk_frz HK2.out 2
              have z3 := Ut.blk_frz HK2.out 3
              have z4 := Ut.blk_frz HK2.out 4
              go_wp2
              have H5 := Ut.five HK2.out (.int .i64 0) (.int .i64 0) (.int .i64 0) (.string ⟨#[]⟩) (.int .i64 0)
              have d0 := Ut.blk_cell H5 0
              have d1 := Ut.blk_cell H5 1
              have d2 := Ut.blk_cell H5 2
              have d3 := Ut.blk_cell H5 3
              have d4 := Ut.blk_cell H5 4
              clear c0 c1 c2 c3 c4 z0 z1 z2 z3 z4
              refine bodyPost_ret (v := .tuple #[.agg #[.int .i64 0, .int .i64 0, .int .i64 0, .string ⟨#[]⟩, .int .i64 0], .int .i64 3]) (by simp [results, Tryz.results13, go_sem, d0, d1, d2, d3, d4]) rfl ⟨rfl, ?_⟩
              (repeat (first | exact HB2.out | refine Below.alloc ?_ (by first | (simp; done) | (simp; omega)) _ | refine Below.setCell ?_ (by first | (simp; done) | (simp; omega)) _))
            | some r =>
              rw [hx] at hT
              have HX2 := Lib.hid (HX.out.mono fun e w' g => (show e = .returned (.tuple #[.string (mkS r.1), .int .i64 (r.2 : Nat)]) ∧ Below W1.heap.size W1 w' by unfold TrP at g; rw [hx] at g; exact g))
              obtain ⟨rt, rk⟩ := r
              simp only at hT HX2
              have hR2 := HR2.out
              rw [hT] at hR2
              (try unfold zT at hR2)
              simp only [Prod.mk.injEq, Tok.mk.injEq] at hR2
              obtain ⟨⟨rfl, rfl, rfl, rfl, rfl⟩, rfl⟩ := hR2
              clear hT HR2 HX hx
              go_wp2_with fail
              refine HX2.out.mono ?_
              rintro e w2 ⟨rfl, hb2⟩
              have HK2 : Hid (w2.heap[w.heap.size]? = some (.cells #[.int .i64 0, .int .i64 0, .int .i64 0, .string ⟨#[]⟩, .int .i64 0] 54 (0, 0))) := (hb2.block _ (by omega)).trans HKG.out
              have HB2 : Hid (Below w.heap.size w w2) := HBW.out.trans (hb2.mono HBW.out.size)
              clear hb2
              have c0 := Ut.blk_cell HK2.out 0
              have c1 := Ut.blk_cell HK2.out 1
              have c2 := Ut.blk_cell HK2.out 2
              have c3 := Ut.blk_cell HK2.out 3
              have c4 := Ut.blk_cell HK2.out 4
              have z0 := Ut.blk_frz HK2.out 0
              have z1 := Ut.blk_frz HK2.out 1
              have z2 := Ut.blk_frz HK2.out 2
              have z3 := Ut.blk_frz HK2.out 3
              have z4 := Ut.blk_frz HK2.out 4
              go_wp2
              have H5 := Ut.five HK2.out (.int .i64 7) (.int .i64 k) (.int .i64 rk) (.string (mkS rt)) (.int .i64 0)
              have d0 := Ut.blk_cell H5 0
              have d1 := Ut.blk_cell H5 1
              have d2 := Ut.blk_cell H5 2
              have d3 := Ut.blk_cell H5 3
              have d4 := Ut.blk_cell H5 4
              clear c0 c1 c2 c3 c4 z0 z1 z2 z3 z4
              refine bodyPost_ret (v := .tuple #[.agg #[.int .i64 7, .int .i64 k, .int .i64 rk, .string (mkS rt), .int .i64 0], .int .i64 0]) (by simp [results, Tryz.results13, go_sem, d0, d1, d2, d3, d4]) rfl ⟨rfl, ?_⟩
              (repeat (first | exact HB2.out | refine Below.alloc ?_ (by first | (simp; done) | (simp; omega)) _ | refine Below.setCell ?_ (by first | (simp; done) | (simp; omega)) _))
          · have q34 : ((s[k].toNat : Int) == 34) = false := by rw [byte_q s k hlt, decide_eq_false h34]
            have h0 : 0 ≤ ((s[k].toNat : Nat) : Int) := by omega
            have h1 : ((s[k].toNat : Nat) : Int) ≤ 255 := by have := s[k].toNat_lt; omega
            have HDG := Lib.hid (fun W => Ch.dig_r (s[k].toNat : Int) W h0 h1)
            rw [HBI.out] at HDG
            by_cases hnum : at0 s.data.toList k = 45 ∨ Ch.digB (at0 s.data.toList k) = true
            · have hT : tokP s.data.toList k = if Nu.pE (cutL s.data.toList k (endP numB s.data.toList k)) = 0 then (⟨8, k, endP numB s.data.toList k, [], Nu.pN (cutL s.data.toList k (endP numB s.data.toList k))⟩, 0) else (zT, Nu.pE (cutL s.data.toList k (endP numB s.data.toList k))) := by
                unfold tokP; rw [if_neg (by rw [hs0]; simp), if_neg h34, if_pos hnum]
              have HRW := Lib.hid (fun W => rown_r s k W hs (by omega))
              have e1 := endP_ge numB s.data.toList k
              have e2 : endP numB s.data.toList k ≤ s.size := by rw [size_l]; exact endP_le (by rw [← size_l]; omega)
              have hz : (s.extract k (endP numB s.data.toList k)).size ≤ 1000 := by rw [ByteArray.size_extract]; omega
              have HP := Lib.hid (fun W => Nu.parse_r (s.extract k (endP numB s.data.toList k)) W hz)
              rw [extract_cut] at HP
              have HT := Lib.hid hT
              have HQ : Hid (∃ b45 : Bool, ((s[k].toNat : Int) == 45) = b45 ∧ (b45 = false → Ch.digB (at0 s.data.toList k) = true)) := ⟨decide (at0 s.data.toList k = 45), byte_q s k hlt 45, fun g => by
                rcases hnum with h | h
                · exact absurd h (of_decide_eq_false g)
                · exact h⟩
              clear hT hz hnum h34 hs0
              revert HRW e1 e2 HP HT
              generalize Nu.pN (cutL s.data.toList k (endP numB s.data.toList k)) = n
              generalize Nu.pE (cutL s.data.toList k (endP numB s.data.toList k)) = e0
              generalize endP numB s.data.toList k = to
              intro HRW e1 e2 HP HT
              have e1' : (k : Int) ≤ (to : Int) := by omega
              have e2' : (to : Int) ≤ (s.size : Int) := by omega
              obtain ⟨b45, q45, hd45⟩ := HQ.out
              clear HQ
              by_cases hE : e0 = 0
              · have qE : (e0 != 0) = false := by simpa using hE
                have hT2 := HT.out
                rw [if_pos hE] at hT2
                have hR2 := HR2.out
                rw [hT2] at hR2
                (try unfold zT at hR2)
                simp only [Prod.mk.injEq, Tok.mk.injEq] at hR2
                obtain ⟨⟨rfl, rfl, rfl, rfl, rfl⟩, rfl⟩ := hR2
                clear hT2 HT HR2 hE
                cases b45 with
                | true =>
                  clear hd45
                  have c0 := Ut.blk_cell HKG.out 0
                  have c1 := Ut.blk_cell HKG.out 1
                  have c2 := Ut.blk_cell HKG.out 2
                  have c3 := Ut.blk_cell HKG.out 3
                  have c4 := Ut.blk_cell HKG.out 4
                  have z0 := Ut.blk_frz HKG.out 0
                  have z1 := Ut.blk_frz HKG.out 1
                  have z2 := Ut.blk_frz HKG.out 2
                  have z3 := Ut.blk_frz HKG.out 3
                  have z4 := Ut.blk_frz HKG.out 4
                  go_wp2_with (first | (go_at_call 29; refine (HDG.out _).mono ?_; rintro e w' ⟨rfl, rfl⟩) | (go_at_call 30; refine (HRW.out _).mono ?_; rintro e w' ⟨rfl, rfl⟩) | (go_at_call 31; refine (HP.out _).mono ?_; rintro e w' ⟨rfl, rfl⟩))
                  have H5 := Ut.five HKG.out (.int .i64 8) (.int .i64 k) (.int .i64 to) (.string ⟨#[]⟩) (.int .i64 n)
                  have d0 := Ut.blk_cell H5 0
                  have d1 := Ut.blk_cell H5 1
                  have d2 := Ut.blk_cell H5 2
                  have d3 := Ut.blk_cell H5 3
                  have d4 := Ut.blk_cell H5 4
                  clear c0 c1 c2 c3 c4 z0 z1 z2 z3 z4
                  refine bodyPost_ret (v := .tuple #[.agg #[.int .i64 8, .int .i64 k, .int .i64 to, .string ⟨#[]⟩, .int .i64 n], .int .i64 0]) (by simp [results, Tryz.results13, go_sem, d0, d1, d2, d3, d4]) rfl ⟨rfl, ?_⟩
                  (repeat (first | exact HBW.out | refine Below.alloc ?_ (by first | (simp; done) | (simp; omega)) _ | refine Below.setCell ?_ (by first | (simp; done) | (simp; omega)) _))
                | false =>
                  rw [hd45 rfl, ← HBI.out] at HDG
                  clear hd45
                  have c0 := Ut.blk_cell HKG.out 0
                  have c1 := Ut.blk_cell HKG.out 1
                  have c2 := Ut.blk_cell HKG.out 2
                  have c3 := Ut.blk_cell HKG.out 3
                  have c4 := Ut.blk_cell HKG.out 4
                  have z0 := Ut.blk_frz HKG.out 0
                  have z1 := Ut.blk_frz HKG.out 1
                  have z2 := Ut.blk_frz HKG.out 2
                  have z3 := Ut.blk_frz HKG.out 3
                  have z4 := Ut.blk_frz HKG.out 4
                  go_wp2_with (first | (go_at_call 29; refine (HDG.out _).mono ?_; rintro e w' ⟨rfl, rfl⟩) | (go_at_call 30; refine (HRW.out _).mono ?_; rintro e w' ⟨rfl, rfl⟩) | (go_at_call 31; refine (HP.out _).mono ?_; rintro e w' ⟨rfl, rfl⟩))
                  have H5 := Ut.five HKG.out (.int .i64 8) (.int .i64 k) (.int .i64 to) (.string ⟨#[]⟩) (.int .i64 n)
                  have d0 := Ut.blk_cell H5 0
                  have d1 := Ut.blk_cell H5 1
                  have d2 := Ut.blk_cell H5 2
                  have d3 := Ut.blk_cell H5 3
                  have d4 := Ut.blk_cell H5 4
                  clear c0 c1 c2 c3 c4 z0 z1 z2 z3 z4
                  refine bodyPost_ret (v := .tuple #[.agg #[.int .i64 8, .int .i64 k, .int .i64 to, .string ⟨#[]⟩, .int .i64 n], .int .i64 0]) (by simp [results, Tryz.results13, go_sem, d0, d1, d2, d3, d4]) rfl ⟨rfl, ?_⟩
                  (repeat (first | exact HBW.out | refine Below.alloc ?_ (by first | (simp; done) | (simp; omega)) _ | refine Below.setCell ?_ (by first | (simp; done) | (simp; omega)) _))
              · have qE : (e0 != 0) = true := by simpa using hE
                have hT2 := HT.out
                rw [if_neg hE] at hT2
                have hR2 := HR2.out
                rw [hT2] at hR2
                (try unfold zT at hR2)
                simp only [Prod.mk.injEq, Tok.mk.injEq] at hR2
                obtain ⟨⟨rfl, rfl, rfl, rfl, rfl⟩, rfl⟩ := hR2
                clear hT2 HT HR2 hE
                cases b45 with
                | true =>
                  clear hd45
                  have c0 := Ut.blk_cell HKG.out 0
                  have c1 := Ut.blk_cell HKG.out 1
                  have c2 := Ut.blk_cell HKG.out 2
                  have c3 := Ut.blk_cell HKG.out 3
                  have c4 := Ut.blk_cell HKG.out 4
                  have z0 := Ut.blk_frz HKG.out 0
                  have z1 := Ut.blk_frz HKG.out 1
                  have z2 := Ut.blk_frz HKG.out 2
                  have z3 := Ut.blk_frz HKG.out 3
                  have z4 := Ut.blk_frz HKG.out 4
                  go_wp2_with (first | (go_at_call 29; refine (HDG.out _).mono ?_; rintro e w' ⟨rfl, rfl⟩) | (go_at_call 30; refine (HRW.out _).mono ?_; rintro e w' ⟨rfl, rfl⟩) | (go_at_call 31; refine (HP.out _).mono ?_; rintro e w' ⟨rfl, rfl⟩))
                  have H5 := Ut.five HKG.out (.int .i64 0) (.int .i64 0) (.int .i64 0) (.string ⟨#[]⟩) (.int .i64 0)
                  have d0 := Ut.blk_cell H5 0
                  have d1 := Ut.blk_cell H5 1
                  have d2 := Ut.blk_cell H5 2
                  have d3 := Ut.blk_cell H5 3
                  have d4 := Ut.blk_cell H5 4
                  clear c0 c1 c2 c3 c4 z0 z1 z2 z3 z4
                  refine bodyPost_ret (v := .tuple #[.agg #[.int .i64 0, .int .i64 0, .int .i64 0, .string ⟨#[]⟩, .int .i64 0], .int .i64 e0]) (by simp [results, Tryz.results13, go_sem, d0, d1, d2, d3, d4]) rfl ⟨rfl, ?_⟩
                  (repeat (first | exact HBW.out | refine Below.alloc ?_ (by first | (simp; done) | (simp; omega)) _ | refine Below.setCell ?_ (by first | (simp; done) | (simp; omega)) _))
                | false =>
                  rw [hd45 rfl, ← HBI.out] at HDG
                  clear hd45
                  have c0 := Ut.blk_cell HKG.out 0
                  have c1 := Ut.blk_cell HKG.out 1
                  have c2 := Ut.blk_cell HKG.out 2
                  have c3 := Ut.blk_cell HKG.out 3
                  have c4 := Ut.blk_cell HKG.out 4
                  have z0 := Ut.blk_frz HKG.out 0
                  have z1 := Ut.blk_frz HKG.out 1
                  have z2 := Ut.blk_frz HKG.out 2
                  have z3 := Ut.blk_frz HKG.out 3
                  have z4 := Ut.blk_frz HKG.out 4
                  go_wp2_with (first | (go_at_call 29; refine (HDG.out _).mono ?_; rintro e w' ⟨rfl, rfl⟩) | (go_at_call 30; refine (HRW.out _).mono ?_; rintro e w' ⟨rfl, rfl⟩) | (go_at_call 31; refine (HP.out _).mono ?_; rintro e w' ⟨rfl, rfl⟩))
                  have H5 := Ut.five HKG.out (.int .i64 0) (.int .i64 0) (.int .i64 0) (.string ⟨#[]⟩) (.int .i64 0)
                  have d0 := Ut.blk_cell H5 0
                  have d1 := Ut.blk_cell H5 1
                  have d2 := Ut.blk_cell H5 2
                  have d3 := Ut.blk_cell H5 3
                  have d4 := Ut.blk_cell H5 4
                  clear c0 c1 c2 c3 c4 z0 z1 z2 z3 z4
                  refine bodyPost_ret (v := .tuple #[.agg #[.int .i64 0, .int .i64 0, .int .i64 0, .string ⟨#[]⟩, .int .i64 0], .int .i64 e0]) (by simp [results, Tryz.results13, go_sem, d0, d1, d2, d3, d4]) rfl ⟨rfl, ?_⟩
                  (repeat (first | exact HBW.out | refine Below.alloc ?_ (by first | (simp; done) | (simp; omega)) _ | refine Below.setCell ?_ (by first | (simp; done) | (simp; omega)) _))
            · have h45 : at0 s.data.toList k ≠ 45 := fun g => hnum (.inl g)
              have q45 : ((s[k].toNat : Int) == 45) = false := by rw [byte_q s k hlt, decide_eq_false h45]
              have hdt : Ch.digB (at0 s.data.toList k) = false := by cases g : Ch.digB (at0 s.data.toList k) with | true => exact absurd (.inr g) hnum | false => rfl
              rw [hdt, ← HBI.out] at HDG
              have hT : tokP s.data.toList k = if wrdK (cutL s.data.toList k (endP wordB s.data.toList k)) = 0 then (zT, 3) else (⟨wrdK (cutL s.data.toList k (endP wordB s.data.toList k)), k, endP wordB s.data.toList k, [], 0⟩, 0) := by
                unfold tokP; rw [if_neg (by rw [hs0]; simp), if_neg h34, if_neg hnum]
              have HRW := Lib.hid (fun W => roww_r s k W hs (by omega))
              have e1 := endP_ge wordB s.data.toList k
              have e2 : endP wordB s.data.toList k ≤ s.size := by rw [size_l]; exact endP_le (by rw [← size_l]; omega)
              have HEX := Lib.hid (ext_list s k (endP wordB s.data.toList k))
              have HT := Lib.hid hT
              clear hT hnum h34 hs0 h45 hdt
              revert HRW e1 e2 HEX HT
              generalize endP wordB s.data.toList k = to
              intro HRW e1 e2 HEX HT
              have e1' : (k : Int) ≤ (to : Int) := by omega
              have e2' : (to : Int) ≤ (s.size : Int) := by omega
              have HW2 : Hid (∃ W2 g2, W2 = W1.alloc (.cells #[.string ⟨#[116, 114, 117, 101]⟩, .string ⟨#[102, 97, 108, 115, 101]⟩, .string ⟨#[110, 117, 108, 108]⟩] 9) ∧ g2 = W1.heap.size ∧ W2.heap[w.heap.size]? = some (.cells #[.int .i64 0, .int .i64 0, .int .i64 0, .string ⟨#[]⟩, .int .i64 0] 54 (0, 0)) ∧ W2.heap[g2]? = some (.cells wrdV 9 (0, 0)) ∧ Below w.heap.size w W2) :=
                ⟨_, _, rfl, rfl, (Below.heap_alloc _ _ _ (by omega)).trans HKG.out, heap_alloc_new W1 _, HBW.out.alloc HBW.out.size _⟩
              go_wp2_with (first | (go_at_call 29; refine (HDG.out _).mono ?_; rintro e w' ⟨rfl, rfl⟩) | (go_at_call 30; refine (HRW.out _).mono ?_; rintro e w' ⟨rfl, rfl⟩))
              obtain ⟨W2, g2, hW2, hg2, hk2, hks2, hBW2⟩ := HW2.out
              rw [← hW2, ← hg2]
              clear hW2 hg2 HW2 HRW HDG
              have HK2 := Lib.hid hk2
              have HKS2 := Lib.hid hks2
              have HB2 := Lib.hid hBW2
              clear hk2 hks2 hBW2
              go_loop [105] (fun i => ∃ j : Nat, j ≤ 3 ∧ i = .int .i64 j ∧ ∀ t, t < j → cutL s.data.toList k to ≠ wrdL.getD t []) (fun i => 3 - (intOf i).toNat)
              case atStart => exact ⟨0, by omega, rfl, fun t ht => by omega⟩
              case round =>
                obtain ⟨j, hj, rfl, hno⟩ := hrel
                have HNO := Lib.hid hno
                clear hno
                by_cases hj3 : j < 3
                · have cj : W2.cell? ⟨g2, j, none⟩ = some (.string (mkS (wrdL.getD j []))) := (Ut.blk_cell HKS2.out j).trans (wrdV_at j hj3)
                  have hwa := wrd_at ⟨j, hj3⟩
                  simp only at hwa
                  have hj3' : (j : Int) < 3 := by omega
                  have hj0 : (0 : Int) ≤ (j : Int) := by omega
                  have hml : (mkS (wrdL.getD j [])).toList = wrdL.getD j [] := by rw [Lib.toList_data, data_mkS]
                  by_cases hit : cutL s.data.toList k to = wrdL.getD j []
                  · have q : ((s.extract k to).toList == (mkS (wrdL.getD j [])).toList) = true := by rw [HEX.out, hml, hit]; simp
                    have hT2 := HT.out
                    rw [hit, hwa, if_neg (by omega)] at hT2
                    have hR2 := HR2.out
                    rw [hT2] at hR2
                    (try unfold zT at hR2)
                    simp only [Prod.mk.injEq, Tok.mk.injEq] at hR2
                    obtain ⟨⟨rfl, rfl, rfl, rfl, rfl⟩, rfl⟩ := hR2
                    clear hT2 HT HR2 hwa hit hml
                    revert cj q
                    generalize mkS (wrdL.getD j []) = ws
                    intro cj q
                    have c0 := Ut.blk_cell HK2.out 0
                    have c1 := Ut.blk_cell HK2.out 1
                    have c2 := Ut.blk_cell HK2.out 2
                    have c3 := Ut.blk_cell HK2.out 3
                    have c4 := Ut.blk_cell HK2.out 4
                    have z0 := Ut.blk_frz HK2.out 0
                    have z1 := Ut.blk_frz HK2.out 1
                    have z2 := Ut.blk_frz HK2.out 2
                    have z3 := Ut.blk_frz HK2.out 3
                    have z4 := Ut.blk_frz HK2.out 4
                    go_wp2
                    have H5 := Ut.five HK2.out (.int .i64 (9 + (j : Int))) (.int .i64 k) (.int .i64 to) (.string ⟨#[]⟩) (.int .i64 0)
                    have d0 := Ut.blk_cell H5 0
                    have d1 := Ut.blk_cell H5 1
                    have d2 := Ut.blk_cell H5 2
                    have d3 := Ut.blk_cell H5 3
                    have d4 := Ut.blk_cell H5 4
                    clear c0 c1 c2 c3 c4 z0 z1 z2 z3 z4
                    refine bodyPost_ret (v := .tuple #[.agg #[.int .i64 (9 + (j : Int)), .int .i64 k, .int .i64 to, .string ⟨#[]⟩, .int .i64 0], .int .i64 0]) (by simp [results, Tryz.results13, go_sem, d0, d1, d2, d3, d4]) rfl ⟨rfl, ?_⟩
                    (repeat (first | exact HB2.out | refine Below.alloc ?_ (by first | (simp; done) | (simp; omega)) _ | refine Below.setCell ?_ (by first | (simp; done) | (simp; omega)) _))
                  · have q : ((s.extract k to).toList == (mkS (wrdL.getD j [])).toList) = false := by rw [HEX.out, hml]; simpa using hit
                    have HIT := Lib.hid hit
                    clear hwa hit hml
                    revert cj q
                    generalize mkS (wrdL.getD j []) = ws
                    intro cj q
                    go_wp2
                    go_round
                    case rel =>
                      refine ⟨j + 1, by omega, by go_num, fun t ht => ?_⟩
                      by_cases e : t = j
                      · subst e; exact HIT.out
                      · exact HNO.out t (by omega)
                    case measure => simp [intOf]; omega
                · have hj4 : j = 3 := by omega
                  subst hj4
                  have hT2 := HT.out
                  rw [wrd_no _ HNO.out, if_pos rfl] at hT2
                  have hR2 := HR2.out
                  rw [hT2] at hR2
                  (try unfold zT at hR2)
                  simp only [Prod.mk.injEq, Tok.mk.injEq] at hR2
                  obtain ⟨⟨rfl, rfl, rfl, rfl, rfl⟩, rfl⟩ := hR2
                  clear hT2 HT HR2 HNO
                  have c0 := Ut.blk_cell HK2.out 0
                  have c1 := Ut.blk_cell HK2.out 1
                  have c2 := Ut.blk_cell HK2.out 2
                  have c3 := Ut.blk_cell HK2.out 3
                  have c4 := Ut.blk_cell HK2.out 4
                  have z0 := Ut.blk_frz HK2.out 0
                  have z1 := Ut.blk_frz HK2.out 1
                  have z2 := Ut.blk_frz HK2.out 2
                  have z3 := Ut.blk_frz HK2.out 3
                  have z4 := Ut.blk_frz HK2.out 4
                  go_wp2
                  have H5 := Ut.five HK2.out (.int .i64 0) (.int .i64 0) (.int .i64 0) (.string ⟨#[]⟩) (.int .i64 0)
                  have d0 := Ut.blk_cell H5 0
                  have d1 := Ut.blk_cell H5 1
                  have d2 := Ut.blk_cell H5 2
                  have d3 := Ut.blk_cell H5 3
                  have d4 := Ut.blk_cell H5 4
                  clear c0 c1 c2 c3 c4 z0 z1 z2 z3 z4
                  refine bodyPost_ret (v := .tuple #[.agg #[.int .i64 0, .int .i64 0, .int .i64 0, .string ⟨#[]⟩, .int .i64 0], .int .i64 3]) (by simp [results, Tryz.results13, go_sem, d0, d1, d2, d3, d4]) rfl ⟨rfl, ?_⟩
                  (repeat (first | exact HB2.out | refine Below.alloc ?_ (by first | (simp; done) | (simp; omega)) _ | refine Below.setCell ?_ (by first | (simp; done) | (simp; omega)) _))
theorem nextR_c (s : ByteArray) (a : Nat) (w : World) (hs : s.size ≤ 1000) (ha : a ≤ s.size) :
    Calls Tryz.prog 13 #[.string s, .int .i64 (a : Int)] w fun e w' => e = ret2 (tkV (tokA s.data.toList a).1) (tokA s.data.toList a).2 ∧ Below w.heap.size w w' :=
  nextR_r s a _ _ _ _ _ _ w hs ha rfl
end Go.Proofs.YtpgllcdcpdeicaaGreatDoor.Jt
