/- The contract of package head's reader's first, put together: for every text of at most a thousand bytes; where the library's variable MaxLen holds a number. -/
import Derived.Test.YtkblggpnghdnmaaGreatDoorHdFlds
namespace Go.Proofs.YtkblggpnghdnmaaGreatDoor.Hd
open Go.RowKit Ch
set_option linter.unusedSimpArgs false
set_option linter.unusedVariables false

set_option maxRecDepth 100000 in
set_option maxHeartbeats 4000000 in
theorem fir_e (g : Nat) (s : ByteArray) (a b c st : Int) (w : World) (hgl : g < w.heap.size)
    (HN : Hid (Calls Tryz.prog 34 #[.pointer (some ⟨g, 0, none⟩), .int .i64 414] (w.alloc (.cells #[.string ⟨#[]⟩, .string ⟨#[]⟩, .int .i64 0, .slice none 0 0] 35)) fun e w' => e = .returned (.tuple #[.string ⟨#[]⟩, fltV (0 + 1) st]) ∧ RdB g s 0 (0 + 1) a b c w' ∧ (w.alloc (.cells #[.string ⟨#[]⟩, .string ⟨#[]⟩, .int .i64 0, .slice none 0 0] 35)).grownBy w' (some g))) :
    Calls Tryz.prog 26 #[.pointer (some ⟨g, 0, none⟩)] w fun e w' => e = .returned (.tuple #[.agg #[.string ⟨#[]⟩, .string ⟨#[]⟩, .int .i64 0, .slice none 0 0], fltV 1 st]) ∧ RdB g s 0 1 a b c w' ∧ w.grownBy w' (some g) := by
  have HB0 : Hid (Below w.heap.size w (w.alloc (.cells #[.string ⟨#[]⟩, .string ⟨#[]⟩, .int .i64 0, .slice none 0 0] 35))) := (Below.refl _ _).alloc (Nat.le_refl _) _
  have HT2 := Lib.hid (heap_alloc_new w (.cells #[.string ⟨#[]⟩, .string ⟨#[]⟩, .int .i64 0, .slice none 0 0] 35))
  have hz0 : ∀ o, (w.alloc o).heap.size = w.heap.size + 1 := fun o => by simp
  unfold fltV at HN
  rw [show (0 : Int) + 1 = 1 from rfl] at HN
  go_enter Tryz.func26, Tryz.ntmps26
  go_wp2_with fail
  refine HN.out.mono ?_
  rintro e w1 ⟨rfl, hR1, hG1⟩
  have HR1 := Lib.hid hR1
  have HG1 : Hid (w.grownBy w1 (some g)) := gb_trans (gb_below HB0.out) hG1
  have HT1 : Hid (w1.heap[w.heap.size]? = some (.cells #[.string ⟨#[]⟩, .string ⟨#[]⟩, .int .i64 0, .slice none 0 0] 35 (0, 0))) := (hG1.block _ (by rw [hz0]; omega) (fun e => by injection e with e; omega)).trans HT2.out
  clear hR1 hG1 HN
  have c0 := cell_of_row _ _ 0 _ _ _ HT1.out
  have c1 := cell_of_row _ _ 1 _ _ _ HT1.out
  have c2 := cell_of_row _ _ 2 _ _ _ HT1.out
  have c3 := cell_of_row _ _ 3 _ _ _ HT1.out
  have z0 := frz2 HT1.out 0
  have z1 := frz2 HT1.out 1
  have z2 := frz2 HT1.out 2
  have z3 := frz2 HT1.out 3
  have HH := Lib.hid (set4 HT1.out (.string ⟨#[]⟩) (.string ⟨#[]⟩) (.int .i64 0) (.slice none 0 0))
  have HHR := Lib.hid (ne4 (g := w.heap.size) HR1.out (by omega) (.string ⟨#[]⟩) (.string ⟨#[]⟩) (.int .i64 0) (.slice none 0 0))
  go_wp2
  have d0 := cell_of_row _ _ 0 _ _ _ HH.out
  have d1 := cell_of_row _ _ 1 _ _ _ HH.out
  have d2 := cell_of_row _ _ 2 _ _ _ HH.out
  have d3 := cell_of_row _ _ 3 _ _ _ HH.out
  clear c0 c1 c2 c3 z0 z1 z2 z3
  refine bodyPost_ret (v := .tuple #[.agg #[.string ⟨#[]⟩, .string ⟨#[]⟩, .int .i64 0, .slice none 0 0], fltV 1 st]) (by simp [results, Tryz.results26, go_sem, fltV, d0, d1, d2, d3]) rfl ⟨rfl, HHR.out, ?_⟩
  exact gb_up HG1.out (bel4 (Below.refl w.heap.size w1) (Nat.le_refl _) _ _ _ _) (Nat.le_refl _)
def byI (v : List UInt8) (i : Nat) : Int := (((v.getD i 0).toNat : Nat) : Int) - 48
abbrev FirT := List UInt8 × List UInt8 × Int
def fir3 (m t v : List UInt8) : Except Int FirT := if mthB m && tgtB t && verB (mkS v) then (if byI v 5 = 1 then (if knwB m then .ok (m, t, byI v 7) else .error 501) else .error 505) else .error 400
/-- what a first line is -/
def firL (line : List UInt8) : Except Int FirT := match cutL 32 line with
  | [m, t, v] => fir3 m t v
  | _ => .error 400
def fhL (l : List UInt8) (a : Int) : Except Int (FirT × Nat) := match nxE l 0 a 414 with
  | .error st => .error st
  | .ok j => match firL ((l.drop 0).take j) with
    | .error st => .error st
    | .ok x => .ok (x, 0 + (j + 2))
def FrQ (g : Nat) (s : ByteArray) (a b c : Int) (q : Except Int (FirT × Nat)) (w : World) (e : Ending) (w' : World) : Prop := match q with
  | .ok x => e = .returned (.tuple #[.agg #[.string (mkS x.1.1), .string (mkS x.1.2.1), .int .i64 x.1.2.2, .slice none 0 0], .nilIface]) ∧ RdB g s x.2 1 a b c w' ∧ w.grownBy w' (some g)
  | .error st => ∃ k ln n, e = .returned (.tuple #[.agg #[.string ⟨#[]⟩, .string ⟨#[]⟩, .int .i64 0, .slice none 0 0], fltV n st]) ∧ RdB g s k ln a b c w' ∧ w.grownBy w' (some g)
theorem byI_at {v : List UInt8} {i : Nat} (h : i < (mkS v).size) : (((((mkS v)[i]'h).toNat : Nat) : Int) - 48) = byI v i := by
  unfold byI
  have hl : i < v.length := by rw [size_mkS] at h; exact h
  have e : (mkS v)[i]'h = v.getD i 0 := by
    have := gdat (mkS v) i h
    rw [← this]
    simp only [List.getD, data_mkS, List.getElem?_eq_getElem hl, Option.getD_some]
  rw [e]
theorem first_g (g : Nat) (s : ByteArray) (a b c : Int) (w : World) (hR : RdB g s 0 0 a b c w) (hM : Mx w) (hg : g ≠ 1) (hs : s.size ≤ 1000) :
    Calls Tryz.prog 26 #[.pointer (some ⟨g, 0, none⟩)] w (FrQ g s a b c (fhL s.data.toList a) w) := by
  have hgl := hR.lt
  have hb0 : Below w.heap.size w (w.alloc (.cells #[.string ⟨#[]⟩, .string ⟨#[]⟩, .int .i64 0, .slice none 0 0] 35)) := (Below.refl _ _).alloc (Nat.le_refl _) _
  have HN := Lib.hid (next_c g s 0 0 a b c 414 _ (hR.go hb0) (hM.go hb0) hg hs (by omega) (by omega) (by omega))
  unfold fhL
  cases hn : nxE s.data.toList 0 a 414 with
  | error st =>
    rw [hn] at HN
    exact (fir_e g s a b c st w hgl HN).mono fun e w' h => ⟨_, _, _, h⟩
  | ok j =>
    rw [hn] at HN
    simp only
    have hrm := nx_room (by omega) hn
    rw [← Lib.size_eq] at hrm
    have hz : (mkS ((s.data.toList.drop 0).take j)).size ≤ 1000 := by rw [size_mkS, List.length_take]; omega
    have HSP := Lib.hid (fun W => split_g (mkS ((s.data.toList.drop 0).take j)) 32 W hz)
    rw [data_mkS] at HSP
    have hpl : ∀ p ∈ cutL 32 ((s.data.toList.drop 0).take j), p.length ≤ 1000 := fun p hp => by
      have := cutL_part 32 _ p hp
      rw [size_mkS] at hz; omega
    unfold firL
    by_cases h3 : ∃ m t v, cutL 32 ((s.data.toList.drop 0).take j) = [m, t, v]
    · obtain ⟨m, t, v, h3⟩ := h3
      rw [h3] at HSP hpl
      have HSP3 : Hid (∀ W, Calls Tryz.prog 35 #[.string (mkS ((s.data.toList.drop 0).take j)), .string ⟨#[32]⟩] W fun e w' => e = .returned (.slice (some ⟨W.heap.size, 0, none⟩) 3 3) ∧ w' = W.alloc (.cells #[.string (mkS m), .string (mkS t), .string (mkS v)] 9)) := HSP
      have HM := Lib.hid (fun W => isM_g (mkS m) W (by rw [size_mkS]; exact hpl m (by simp)))
      have HT := Lib.hid (fun W => isT_g (mkS t) W (by rw [size_mkS]; exact hpl t (by simp)))
      have HV := Lib.hid (fun W => isV_g (mkS v) W)
      have HK := Lib.hid (fun W => known_g (mkS m) W)
      rw [data_mkS] at HM HT HK
      rw [h3]
      simp only
      unfold fir3
      cases e1 : mthB m with
      | false =>
        rw [e1] at HM
        simp only [Bool.false_and]
        exact (fir_m g s _ _ a b c 0 _ _ _ w hgl HN HSP3 HM).mono fun e w' h => ⟨_, _, _, h⟩
      | true =>
        rw [e1] at HM
        cases e2 : tgtB t with
        | false =>
          rw [e2] at HT
          simp only [Bool.and_false, Bool.false_and]
          exact (fir_t g s _ _ a b c 0 _ _ _ w hgl HN HSP3 HM HT).mono fun e w' h => ⟨_, _, _, h⟩
        | true =>
          rw [e2] at HT
          cases e3 : verB (mkS v) with
          | false =>
            rw [e3] at HV
            simp only [Bool.and_false]
            exact (fir_v g s _ _ a b c 0 _ _ _ w hgl HN HSP3 HM HT HV).mono fun e w' h => ⟨_, _, _, h⟩
          | true =>
            rw [e3] at HV
            simp only [Bool.and_self, if_true]
            have hv8 : (mkS v).size = 8 := by
              unfold verB at e3
              split at e3
              · assumption
              · cases e3
            have hdd : digU ((mkS v)[5]'(by omega)) = true ∧ digU ((mkS v)[7]'(by omega)) = true := by
              unfold verB at e3
              rw [dif_pos hv8] at e3
              simp only [Bool.and_eq_true] at e3
              exact ⟨e3.1.1.2, e3.2⟩
            have HJ := Lib.hid (fun W => major_g (mkS v) W (by omega) hdd.1)
            have HI := Lib.hid (fun W => minor_g (mkS v) W (by omega) hdd.2)
            rw [byI_at] at HJ HI
            by_cases hj : byI v 5 = 1
            · rw [hj] at HJ
              rw [if_pos hj]
              cases e4 : knwB m with
              | false =>
                rw [e4] at HK
                exact (fir_k g s _ _ a b c 0 _ _ _ w hgl HN HSP3 HM HT HV HJ HK).mono fun e w' h => ⟨_, _, _, h⟩
              | true =>
                rw [e4] at HK
                exact fir_ok g s _ _ a b c (byI v 7) _ _ _ w hgl HN HSP3 HM HT HV HJ HK HI
            · rw [if_neg hj]
              exact (fir_j g s _ _ a b c 0 _ _ _ w hgl HN HSP3 HM HT HV _ HJ (by simpa using hj) (by simpa using hj)).mono fun e w' h => ⟨_, _, _, h⟩
    · have hne : ¬ (cutL 32 ((s.data.toList.drop 0).take j)).length = 3 := fun h => h3 (by
        match hc : cutL 32 ((s.data.toList.drop 0).take j), h with
        | [m, t, v], _ => exact ⟨m, t, v, rfl⟩)
      have e : (match cutL 32 ((s.data.toList.drop 0).take j) with | [m, t, v] => fir3 m t v | _ => (.error 400 : Except Int FirT)) = .error 400 := by
        split
        · rename_i m t v hc; exact absurd ⟨m, t, v, hc⟩ h3
        · rfl
      rw [e]
      exact (fir_n g s _ _ a b c 0 _ _ w hgl HN HSP (beq_eq_false_iff_ne.2 (by omega)) (bne_iff_ne.2 (by omega))).mono fun e w' h => ⟨_, _, _, h⟩
end Go.Proofs.YtkblggpnghdnmaaGreatDoor.Hd
