/- The contract of package head's reader's fields, whatever they are: for every text of at most a thousand bytes; where the library's variable MaxLen holds a number. -/
import Derived.Test.YtkblggpnghdnmaaGreatDoorHdFir
namespace Go.Proofs.YtkblggpnghdnmaaGreatDoor.Hd
open Go.RowKit Ch
set_option linter.unusedSimpArgs false
set_option linter.unusedVariables false

abbrev FldL := List UInt8 × List UInt8
/-- the fields from a place on, and where they end, or a status -/
def fldF : Nat → List UInt8 → Nat → Int → Int → List FldL → Except Int (List FldL × Nat)
  | 0, _, _, _, _, _ => .error 0
  | f + 1, l, k, a, b, acc => match nxE l k a 431 with
    | .error st => .error st
    | .ok j => if j = 0 then .ok (acc, k + 2) else if (acc.length : Int) = b then .error 431 else match ofL ((l.drop k).take j) with
      | none => .error 400
      | some x => fldF f l (k + (j + 2)) a b (acc ++ [x])
theorem end_room {l : List UInt8} {j : Nat} (h : endL l = some j) : j + 2 ≤ l.length := by
  have hi : Lib.index l [13, 10] = (j : Int) := by
    unfold endL at h
    by_cases e : Lib.index l [13, 10] = -1
    · rw [if_pos e] at h; cases h
    · rw [if_neg e] at h
      have := Lib.index_ge l [13, 10]
      have hk := Option.some.inj h
      omega
  have := Lib.index_room l [13, 10] (by omega)
  simp at this
  omega
theorem nx_ok {l : List UInt8} {k j : Nat} {a lg : Int} (h : nxE l k a lg = .ok j) : endL (l.drop k) = some j := by
  unfold nxE at h
  cases he : endL (l.drop k) with
  | none => rw [he] at h; simp only at h; split at h <;> cases h
  | some i =>
    rw [he] at h
    simp only at h
    split at h
    · cases h
    · injection h with e; rw [e]
theorem nx_room {l : List UInt8} {k j : Nat} {a lg : Int} (hk : k ≤ l.length) (h : nxE l k a lg = .ok j) : k + (j + 2) ≤ l.length := by
  have := end_room (nx_ok h)
  rw [List.length_drop] at this
  omega
def flC (fs : List FldL) : List Value := fs.flatMap fun x => [.string (mkS x.1), .string (mkS x.2)]
theorem flC_snoc (fs : List FldL) (x : FldL) : flC (fs ++ [x]) = flC fs ++ [.string (mkS x.1), .string (mkS x.2)] := by unfold flC; rw [List.flatMap_append, List.flatMap_singleton]
/-- a slice of fields of the call's own -/
def OwL (B : Nat) (v : Value) (fs : List FldL) (w : World) : Prop := w.ownsRow B 86 2 v fs.length (flC fs)
theorem OwL.go {B : Nat} {v : Value} {fs : List FldL} {w w' : World} (h : OwL B v fs w) (hb : Below w.heap.size w w') : OwL B v fs w' :=
  World.ownsRow.kept h (row := none) ⟨hb.os, hb.tape, hb.output, hb.size, fun k hk _ => hb.block k hk⟩ (by cases hv : v.ownBlock <;> simp)
theorem OwL.gb {B : Nat} {v : Value} {fs : List FldL} {g : Nat} {w w' : World} (h : OwL B v fs w) (hb : w.grownBy w' (some g)) (hg : g < B) : OwL B v fs w' := by
  refine World.ownsRow.kept h (row := some g) hb (Or.inr (fun e => ?_))
  have := h.lt g e
  omega
theorem own_len {T : TypeId} {B k n : Nat} {v : Value} {xs : List Value} {w : World} (h : w.ownsRow B T k v n xs) : ∃ ao cap, v = .slice ao n cap := by
  rcases h.2 with ⟨rfl, h0⟩ | ⟨g, cap, cur, rfl, _⟩
  · exact ⟨_, 0, by rw [h0]⟩
  · exact ⟨_, _, rfl⟩
def FdQ (g : Nat) (s : ByteArray) (a b c : Int) (q : Except Int (List FldL × Nat)) (w : World) (e : Ending) (w' : World) : Prop := match q with
  | .ok x => ∃ ao cp ln, e = .returned (.tuple #[.slice ao x.1.length cp, .nilIface]) ∧ OwL w.heap.size (.slice ao x.1.length cp) x.1 w' ∧ RdB g s x.2 ln a b c w' ∧ w.grownBy w' (some g) ∧ 0 ≤ ln ∧ ln ≤ 5000
  | .error st => ∃ k ln n, e = .returned (.tuple #[.slice none 0 0, fltV n st]) ∧ RdB g s k ln a b c w' ∧ w.grownBy w' (some g)
theorem fdq_no {g : Nat} {s : ByteArray} {a b c : Int} {q : Except Int (List FldL × Nat)} {w : World} {e : Ending} {w' : World} {st : Int} {k : Nat} {ln n : Int} (hq : q = .error st) (he : e = .returned (.tuple #[.slice none 0 0, fltV n st])) (hR : RdB g s k ln a b c w') (hG : w.grownBy w' (some g)) : FdQ g s a b c q w e w' := by
  subst hq; exact ⟨k, ln, n, he, hR, hG⟩
theorem fdq_ok {g : Nat} {s : ByteArray} {a b c : Int} {q : Except Int (List FldL × Nat)} {w : World} {e : Ending} {w' : World} {acc : List FldL} {k : Nat} {ln : Int} {ao : Option Addr} {cp : Nat} (hq : q = .ok (acc, k)) (he : e = .returned (.tuple #[.slice ao acc.length cp, .nilIface])) (hO : OwL w.heap.size (.slice ao acc.length cp) acc w') (hR : RdB g s k ln a b c w') (hG : w.grownBy w' (some g)) (h0 : 0 ≤ ln) (h1 : ln ≤ 5000) : FdQ g s a b c q w e w' := by
  subst hq; exact ⟨ao, cp, ln, he, hO, hR, hG, h0, h1⟩
theorem fld_e {f : Nat} {l : List UInt8} {k : Nat} {a b st : Int} {acc : List FldL} (h : nxE l k a 431 = .error st) : fldF (f + 1) l k a b acc = .error st := by rw [fldF, h]
theorem fld_z {f : Nat} {l : List UInt8} {k : Nat} {a b : Int} {acc : List FldL} (h : nxE l k a 431 = .ok 0) : fldF (f + 1) l k a b acc = .ok (acc, k + 2) := by rw [fldF, h]; simp
theorem fld_l {f : Nat} {l : List UInt8} {k j : Nat} {a b : Int} {acc : List FldL} (h : nxE l k a 431 = .ok j) (hj : j ≠ 0) (hb : (acc.length : Int) = b) : fldF (f + 1) l k a b acc = .error 431 := by rw [fldF, h]; simp only [hj, hb, if_false, if_true]
theorem fld_n {f : Nat} {l : List UInt8} {k j : Nat} {a b : Int} {acc : List FldL} (h : nxE l k a 431 = .ok j) (hj : j ≠ 0) (hb : ¬ (acc.length : Int) = b) (ho : ofL ((l.drop k).take j) = none) : fldF (f + 1) l k a b acc = .error 400 := by rw [fldF, h]; simp only [hj, hb, if_false, ho]
theorem fld_s {f : Nat} {l : List UInt8} {k j : Nat} {a b : Int} {acc : List FldL} {x : FldL} (h : nxE l k a 431 = .ok j) (hj : j ≠ 0) (hb : ¬ (acc.length : Int) = b) (ho : ofL ((l.drop k).take j) = some x) : fldF (f + 1) l k a b acc = fldF f l (k + (j + 2)) a b (acc ++ [x]) := by rw [fldF, h]; simp only [hj, hb, if_false, ho]
/-- what holds at the loop's head -/
def FdR (g : Nat) (s : ByteArray) (a b c : Int) (q : Except Int (List FldL × Nat)) (w : World) (v : Value) (wr : World) (acc : List FldL) (k f : Nat) (ln : Int) : Prop := fldF (f + 1) s.data.toList k a b acc = q ∧ k ≤ s.size ∧ s.size < k + 2 * f + 2 ∧ 0 ≤ ln ∧ ln ≤ (k : Int) + 1 ∧ acc.length ≤ k ∧ OwL w.heap.size v acc wr ∧ RdB g s k ln a b c wr ∧ w.grownBy wr (some g) ∧ Mx wr
theorem cg_at {g : Nat} {s : ByteArray} {k : Nat} {ln a b c : Int} {w : World} (h : RdB g s k ln a b c w) : cg w ⟨g, 1, none⟩ = .int .i64 (k : Int) := by
  unfold cg
  rw [show w.cell? ⟨g, 1, none⟩ = some (.int .i64 (k : Int)) from cell_of_row _ _ 1 _ _ _ h]; rfl
set_option maxRecDepth 100000 in
set_option maxHeartbeats 8000000 in
theorem fields_g (g : Nat) (s : ByteArray) (k0 : Nat) (ln0 a b c : Int) (w : World) (hR : RdB g s k0 ln0 a b c w) (hM : Mx w) (hg : g ≠ 1) (hs : s.size ≤ 1000) (hk : k0 ≤ s.size) (hl0 : 0 ≤ ln0) (hl1 : ln0 ≤ (k0 : Int) + 1) :
    Calls Tryz.prog 27 #[.pointer (some ⟨g, 0, none⟩)] w (FdQ g s a b c (fldF (s.size + 1) s.data.toList k0 a b []) w) := by
  obtain ⟨i0, hi, hz0, hz1, hz2⟩ := info_parts infoF
  have hgl := hR.lt
  have hsl := Lib.hid (Lib.size_eq s)
  generalize hq : fldF (s.size + 1) s.data.toList k0 a b [] = q
  have HR0 : Hid (FdR g s a b c q w (.slice none 0 0) w [] k0 s.size ln0) := ⟨hq, hk, by omega, hl0, hl1, by simp, World.ownsRow_nil _ _ _ _, hR, gb_refl _ _, hM⟩
  have HMX := Lib.hid hM
  clear hq hR hM hl0 hl1 hk
  go_enter Tryz.func27, Tryz.ntmps27
  go_wp2
  go_loopw [4] (fun v wr => ∃ acc k f ln, FdR g s a b c q w v wr acc k f ln) (fun _ wr => s.size + 5 - (intOf (cg wr ⟨g, 1, none⟩)).toNat)
  case atStart => exact ⟨_, _, _, _, HR0.out⟩
  case round =>
    clear HR0
    obtain ⟨acc, k, f, ln, hF, hk, hkf, hl0, hl1, hac, hO, hR, hG, hM⟩ := hrel
    have HF := Lib.hid hF
    have HO := Lib.hid hO
    have HG := Lib.hid hG
    have HM := Lib.hid hM
    have HCG := Lib.hid (cg_at hR)
    obtain ⟨ao, cp, hv⟩ := own_len hO
    subst hv
    have HN := Lib.hid (next_c g s k ln a b c 431 wr hR hM hg hs hk hl0 (by omega))
    have hsw : w.heap.size ≤ wr.heap.size := hG.size
    clear hF hO hR hG hM
    cases hn : nxE s.data.toList k a 431 with
    | error st =>
      rw [hn] at HN
      have HE := Lib.hid ((fld_e (f := f) (b := b) (acc := acc) hn).symm.trans HF.out)
      unfold NxQ fltV at HN
      simp only at HN
      clear hn HF
      go_wp2_with fail
      refine HN.out.mono ?_
      rintro e w1 ⟨rfl, hR1, hG1⟩
      have HR1 := Lib.hid hR1
      have HG1 : Hid (w.grownBy w1 (some g)) := gb_trans HG.out hG1
      clear hR1 hG1 HN
      go_wp2
      go_ret2
      exact fdq_no HE.out.symm rfl HR1.out HG1.out
    | ok j =>
      rw [hn] at HN
      unfold NxQ at HN
      simp only at HN
      have hrm := nx_room (by rw [← hsl.out]; exact hk) hn
      rw [← hsl.out] at hrm
      have hll : ((s.data.toList.drop k).take j).length = j := by rw [List.length_take, List.length_drop, ← hsl.out]; omega
      have hem : (mkS ((s.data.toList.drop k).take j)).toList.isEmpty = decide (j = 0) := by
        rw [Lib.toList_data, data_mkS]
        cases hc : (s.data.toList.drop k).take j with
        | nil => rw [hc] at hll; simp at hll; simp [← hll]
        | cons x y => rw [hc] at hll; simp at hll; simp; omega
      have HOF := Lib.hid (fun W => OfField_c (mkS ((s.data.toList.drop k).take j)) W (by rw [size_mkS, hll]; omega))
      rw [data_mkS] at HOF
      by_cases hj : j = 0
      · subst hj
        have HE := Lib.hid ((fld_z (f := f) (b := b) (acc := acc) hn).symm.trans HF.out)
        rw [decide_eq_true rfl] at hem
        clear hn HF HOF hll
        revert HN hem
        generalize mkS ((s.data.toList.drop k).take 0) = t
        intro HN hem
        go_wp2_with fail
        refine HN.out.mono ?_
        rintro e w1 ⟨rfl, hR1, hG1⟩
        have HR1 := Lib.hid hR1
        have HG1 : Hid (w.grownBy w1 (some g)) := gb_trans HG.out hG1
        have HO1 := Lib.hid (HO.out.gb hG1 hgl)
        clear hR1 hG1 HN
        go_wp2
        go_ret2
        exact fdq_ok HE.out.symm rfl HO1.out HR1.out HG1.out (by omega) (by omega)
      · rw [decide_eq_false hj] at hem
        by_cases hb : (acc.length : Int) = b
        · have HE := Lib.hid ((fld_l (f := f) hn hj hb).symm.trans HF.out)
          have hbe : ((acc.length : Int) == b) = true := by simpa using hb
          clear hn HF HOF hll hb
          revert HN hem
          generalize mkS ((s.data.toList.drop k).take j) = t
          intro HN hem
          go_wp2_with fail
          refine HN.out.mono ?_
          rintro e w1 ⟨rfl, hR1, hG1⟩
          have HR1 := Lib.hid hR1
          have HG1 : Hid (w.grownBy w1 (some g)) := gb_trans HG.out hG1
          clear hR1 hG1 HN
          have r4 := cell_of_row _ _ 4 _ _ _ HR1.out
          have HFL := Lib.hid (fault_c g s (k + (j + 2)) (ln + 1) a b c 431 w1 HR1.out)
          unfold fltV at HFL
          go_wp2_with fail
          refine HFL.out.mono ?_
          rintro e w3 ⟨rfl, hw⟩
          rw [← hw]; clear hw
          go_wp2
          go_ret2
          exact fdq_no HE.out.symm rfl HR1.out HG1.out
        · have hbe : ((acc.length : Int) == b) = false := by simpa using hb
          cases ho : ofL ((s.data.toList.drop k).take j) with
          | none =>
            have HE := Lib.hid ((fld_n (f := f) hn hj hb ho).symm.trans HF.out)
            rw [ofV_no ho] at HOF
            clear hn HF hll hb ho
            revert HN hem HOF
            generalize mkS ((s.data.toList.drop k).take j) = t
            intro HN hem HOF
            go_wp2_with fail
            refine HN.out.mono ?_
            rintro e w1 ⟨rfl, hR1, hG1⟩
            have HR1 := Lib.hid hR1
            have HG1 : Hid (w.grownBy w1 (some g)) := gb_trans HG.out hG1
            clear hR1 hG1 HN
            have r4 := cell_of_row _ _ 4 _ _ _ HR1.out
            go_wp2_with fail
            refine (HOF.out _).mono ?_
            rintro e w2 ⟨rfl, hb2⟩
            have hb3 : Below w1.heap.size w1 (w2.alloc (.cells #[.string ⟨#[]⟩, .string ⟨#[]⟩] 86)) := hb2.alloc hb2.size _
            have HR3 := Lib.hid (HR1.out.go hb3)
            have HG3 : Hid (w.grownBy (w2.alloc (.cells #[.string ⟨#[]⟩, .string ⟨#[]⟩] 86)) (some g)) := gb_trans HG1.out (gb_below hb3)
            clear hb2 hb3 r4
            have HFL := Lib.hid (fault_c g s (k + (j + 2)) (ln + 1) a b c 400 (w2.alloc (.cells #[.string ⟨#[]⟩, .string ⟨#[]⟩] 86)) HR3.out)
            unfold fltV at HFL
            go_wp2_with fail
            refine HFL.out.mono ?_
            rintro e w3 ⟨rfl, hw⟩
            rw [← hw]; clear hw
            go_wp2
            go_ret2
            exact fdq_no HE.out.symm rfl HR3.out HG3.out
          | some x =>
            obtain ⟨xa, xb⟩ := x
            have HE := Lib.hid ((fld_s (f := f) hn hj hb ho).symm.trans HF.out)
            rw [ofV_yes ho] at HOF
            simp only at HOF
            clear hn HF hll hb ho
            revert HN hem HOF
            generalize mkS ((s.data.toList.drop k).take j) = t
            intro HN hem HOF
            go_wp2_with fail
            refine HN.out.mono ?_
            rintro e w1 ⟨rfl, hR1, hG1⟩
            have HR1 := Lib.hid hR1
            have HG1 : Hid (w.grownBy w1 (some g)) := gb_trans HG.out hG1
            have HM1 := Lib.hid (HM.out.gb hG1 hg)
            have HO1 := Lib.hid (HO.out.gb hG1 hgl)
            clear hR1 hG1 HN
            have r4 := cell_of_row _ _ 4 _ _ _ HR1.out
            go_wp2_with fail
            refine (HOF.out _).mono ?_
            rintro e w2 ⟨rfl, hb2⟩
            have HD : Hid (∃ W2, W2 = (w2.alloc (.cells #[.string (mkS xa), .string (mkS xb)] 86)).alloc (.cells #[.string (mkS xa), .string (mkS xb)] 86) ∧ W2.heap[w2.heap.size + 1]? = some (.cells #[.string (mkS xa), .string (mkS xb)] 86 (0, 0)) ∧ Below w1.heap.size w1 W2) := by
              refine ⟨_, rfl, ?_, hb2.trans ((((Below.refl w2.heap.size w2).alloc (Nat.le_refl _) _).alloc (by simp) _).mono hb2.size)⟩
              have := heap_alloc_new (w2.alloc (.cells #[.string (mkS xa), .string (mkS xb)] 86)) (.cells #[.string (mkS xa), .string (mkS xb)] 86)
              simpa using this
            obtain ⟨W2, hW2, hk3, hbW⟩ := HD.out
            have HK3 := Lib.hid hk3
            have HW2 := Lib.hid hW2
            have HRW := Lib.hid (HR1.out.go hbW)
            have HGW : Hid (w.grownBy W2 (some g)) := gb_trans HG1.out (gb_below hbW)
            have HMW := Lib.hid (HM1.out.go hbW)
            have HOW := Lib.hid (HO1.out.go hbW)
            clear HD hk3 hW2 hbW hb2 r4
            go_wp2_with (at_builtin; rw [← HW2.out]; refine wpList_append_own _ rfl _ _ 33 rfl w.heap.size 86 i0 _ 2 32 Tryz.underlying33 hi hz0 hz1 hz2 rfl (by decide) _ _ _ rfl HOW.out ⟨w2.heap.size + 1, 0, none⟩ 1 1 [.string (mkS xa), .string (mkS xb)] rfl rfl ?c1 ?c2 ?c3 ?c4 ?c5 ?_)
            case c1 =>
              intro i v hv
              have hj5 : i < 2 := by
                rcases Nat.lt_or_ge i 2 with h | h
                · exact h
                · rw [List.getElem?_eq_none (by show 2 ≤ i; exact h)] at hv; cases hv
              have ea : (⟨w2.heap.size + 1, 0, none⟩ : Addr).add i = ⟨w2.heap.size + 1, i, none⟩ := by unfold Addr.add; split <;> simp_all
              rw [ea, cell_of_row _ _ i _ _ _ HK3.out]
              match i, hj5 with
              | 0, _ => exact hv
              | 1, _ => exact hv
            case c2 => intro v hv; simp at hv; rcases hv with rfl | rfl <;> rfl
            case c3 => unfold maxLen; omega
            case c4 => omega
            case c5 => exact HGW.out.size
            intro v' w5 hown' hgrow _
            have hlo : ∀ p, (Value.slice ao acc.length cp).ownBlock = some p → w.heap.size ≤ p ∧ p < W2.heap.size := fun p hp => HOW.out.lt p hp
            have HR5 : Hid (RdB g s (k + (j + 2)) (ln + 1) a b c w5) := by
              show RdB g s (k + (j + 2)) (ln + 1) a b c w5
              unfold RdB
              rw [hgrow.block _ HRW.out.lt (fun e => by have := hlo g e.symm; omega)]
              exact HRW.out
            have HG5 : Hid (w.grownBy w5 (some g)) := ⟨hgrow.os.trans HGW.out.os, hgrow.tape.trans HGW.out.tape, hgrow.output.trans HGW.out.output, Nat.le_trans HGW.out.size hgrow.size, fun p hp hr => (hgrow.block p (Nat.lt_of_lt_of_le hp HGW.out.size) (fun e => by have := hlo p e.symm; omega)).trans (HGW.out.block p hp hr)⟩
            have HM5 : Hid (Mx w5) := HMX.out.gb HG5.out hg
            have HO5 : Hid (OwL w.heap.size v' (acc ++ [(xa, xb)]) w5) := by
              show OwL w.heap.size v' (acc ++ [(xa, xb)]) w5
              unfold OwL
              rw [flC_snoc, List.length_append]
              exact hown'
            have HN5 : Hid (FdR g s a b c q w v' w5 (acc ++ [(xa, xb)]) (k + (j + 2)) (f - 1) (ln + 1)) := by
              refine ⟨?_, hrm, by omega, by omega, by omega, by simp; omega, HO5.out, HR5.out, HG5.out, HM5.out⟩
              rw [show f - 1 + 1 = f by omega]
              exact HE.out
            have HC5 := Lib.hid (cg_at HR5.out)
            clear hown' hgrow hlo
            go_wp2
            go_roundw
            case rel => exact ⟨_, _, _, _, HN5.out⟩
            case measure => rw [HC5.out, HCG.out]; simp [intOf]; omega
end Go.Proofs.YtkblggpnghdnmaaGreatDoor.Hd
