/- The contract of the document's own Parse: for every text of at most a thousand bytes. -/
import Derived.Test.YtojmjdgapfcjfaaDoorEtOneC
namespace Go.Proofs.YtojmjdgapfcjfaaDoor.Et
open Go.RowKit Ch
set_option linter.unusedSimpArgs false
set_option linter.unusedVariables false

def PsE (ps : List (List UInt8)) (k : Nat) (acc : List TagL) : Prop := k ≤ ps.length ∧ acc.length ≤ k ∧ stA [] ps = stA acc (ps.drop k)
theorem pse_start (ps : List (List UInt8)) : PsE ps 0 [] := ⟨by omega, by simp, by simp⟩
theorem pse_end {ps : List (List UInt8)} {k : Nat} {acc : List TagL} (h : PsE ps k acc) (hk : ps.length ≤ k) : stA [] ps = some acc := by
  rw [h.2.2, List.drop_eq_nil_of_le hk]; rfl
theorem pse_skip {ps : List (List UInt8)} {k : Nat} {acc : List TagL} (h : PsE ps k acc) (hk : k < ps.length) (he : trimL ps[k] = []) : PsE ps (k + 1) acc := by
  refine ⟨by omega, by have := h.2.1; omega, ?_⟩
  rw [h.2.2, List.drop_eq_getElem_cons hk, stA, stepL, if_pos he]; rfl
theorem pse_bad {ps : List (List UInt8)} {k : Nat} {acc : List TagL} (h : PsE ps k acc) (hk : k < ps.length) (he : ¬ trimL ps[k] = []) (ho : oneL (trimL ps[k]) = none) : stA [] ps = none := by
  rw [h.2.2, List.drop_eq_getElem_cons hk, stA, stepL, if_neg he, ho]; rfl
theorem pse_step {ps : List (List UInt8)} {k : Nat} {acc : List TagL} {t : TagL} (h : PsE ps k acc) (hk : k < ps.length) (he : ¬ trimL ps[k] = []) (ho : oneL (trimL ps[k]) = some t) : PsE ps (k + 1) (acc ++ [t]) := by
  refine ⟨by omega, by have := h.2.1; simp; omega, ?_⟩
  rw [h.2.2, List.drop_eq_getElem_cons hk, stA, stepL, if_neg he, ho]; rfl
theorem prs_stA (l : List UInt8) (h : ¬ trimL l = [42]) : prsL l = match stA [] (ptL l) with | some (t :: ts) => some (false, t :: ts) | _ => none := by
  unfold prsL
  rw [if_neg h, mrk_ref _ _ _ (Nat.lt_succ_self _), refV_stA]
  rfl
def prA (q : Option (List TagL)) : Option (Bool × List TagL) := match q with | some (t :: ts) => some (false, t :: ts) | _ => none
def PaV (T : TypeId) (q : Option (Bool × List TagL)) (w : World) (e : Ending) (w' : World) : Prop := ∃ ao n c, e = .returned (.tuple #[.bool (anyQ q), .slice ao n c, .bool q.isSome]) ∧ OwT T w.heap.size (.slice ao n c) (tagQ q) w' ∧ Below w.heap.size w w'
theorem pav_any {T : TypeId} {w : World} {e : Ending} {w' : World} (he : e = .returned (.tuple #[.bool true, .slice none 0 0, .bool true])) (hb : Below w.heap.size w w') : PaV T (some (true, [])) w e w' := ⟨none, 0, 0, he, World.ownsRow_nil _ _ _ _, hb⟩
theorem pav_no {T : TypeId} {q : Option (List TagL)} {w : World} {e : Ending} {w' : World} (hq : q = none) (he : e = .returned (.tuple #[.bool false, .slice none 0 0, .bool false])) (hb : Below w.heap.size w w') : PaV T (prA q) w e w' := by
  subst hq
  exact ⟨none, 0, 0, he, World.ownsRow_nil _ _ _ _, hb⟩
theorem pav_some {T : TypeId} {q : Option (List TagL)} {acc : List TagL} {w : World} {e : Ending} {w' : World} {ao : Option Addr} {n c : Nat} {b : Bool} (hq : q = some acc) (he : e = .returned (.tuple #[.bool false, .slice ao n c, .bool b])) (hl : b = decide (0 < acc.length)) (ho : OwT T w.heap.size (.slice ao n c) acc w') (hb : Below w.heap.size w w') : PaV T (prA q) w e w' := by
  subst hq
  cases acc with
  | nil =>
    rw [show decide (0 < ([] : List TagL).length) = false from rfl] at hl
    rw [hl] at he
    exact ⟨ao, n, c, he, ho, hb⟩
  | cons t ts =>
    have hl2 : b = true := by rw [hl]; simp
    rw [hl2] at he
    exact ⟨ao, n, c, he, ho, hb⟩
theorem own_form {T : TypeId} {B k n : Nat} {v : Value} {xs : List Value} {w : World} (h : w.ownsRow B T k v n xs) (hn : 0 < n) : ∃ g cap, v = .slice (some ⟨g, 0, none⟩) n cap := by
  rcases h.2 with ⟨rfl, h0⟩ | ⟨g, cap, cur, rfl, _⟩
  · omega
  · exact ⟨_, _, rfl⟩
theorem infoU : (Tryd.prog.info? 23).map (fun i => (i.zero, i.size, i.bytes)) = some (some (.agg #[.bool false, .string ⟨#[]⟩]), 2, 24) := by kernel_rfl
theorem onV_mk {q : Option TagL} {t : TagL} (h : q = some t) : onV q = .returned (.tuple #[.agg #[.bool t.1, .string (mkS t.2)], .bool true]) := by subst h; rfl
set_option maxRecDepth 100000 in
set_option maxHeartbeats 8000000 in
theorem ParseR_c (s : ByteArray) (w : World) (hs : s.size ≤ 1000) : Calls Tryd.prog 16 #[.string s] w (PaV 23 (prsL s.data.toList) w) := by
  have HT := Lib.hid (fun W => trim_r s W (by unfold maxLen; omega))
  have hst := star_eq (trimL s.data.toList)
  by_cases h : trimL s.data.toList = [42]
  · rw [decide_eq_true h] at hst
    rw [prs_any h]
    clear h
    revert HT hst
    generalize mkS (trimL s.data.toList) = t
    intro HT hst
    go_enter Tryd.func16, Tryd.ntmps16
    go_wp2_with fail
    refine (HT.out _).mono ?_
    rintro e w1 ⟨rfl, hw⟩
    rw [← hw]; clear hw
    go_wp2
    go_ret3
    exact pav_any rfl (Below.refl _ _)
  · rw [decide_eq_false h] at hst
    rw [prs_stA _ h]
    show Calls _ _ _ _ (PaV 23 (prA (stA [] (ptL s.data.toList))) w)
    clear h
    have HC := Lib.hid (fun W => Parts_r s W hs)
    obtain ⟨i0, hi, hz0, hz1, hz2⟩ := info_parts infoU
    have hpt := ptF_len false s.data.toList [] false
    have hpl : ∀ p ∈ ptL s.data.toList, p.length ≤ 1000 := fun p hp => by have := hpt.2.2 p hp; rw [← Lib.size_eq] at this; simp at this; omega
    have hcl : (ptL s.data.toList).length ≤ 1001 := by have := hpt.1; rw [← Lib.size_eq] at this; show (ptF false [] s.data.toList).length ≤ 1001; omega
    have hcp : 0 < (ptL s.data.toList).length := hpt.2.1
    clear hpt
    revert HT hst HC hpl hcl hcp
    generalize ptL s.data.toList = ps
    generalize mkS (trimL s.data.toList) = t
    intro HT hst HC hpl hcl hcp
    have HPL := Lib.hid hpl
    clear hpl
    have HS0 := Lib.hid (pse_start ps)
    go_enter Tryd.func16, Tryd.ntmps16
    go_wp2_with fail
    refine (HT.out _).mono ?_
    rintro e w1 ⟨rfl, hw⟩
    rw [← hw]; clear hw HT
    go_wp2_with fail
    refine (HC.out _).mono ?_
    rintro e wa ⟨vp, rfl, hO, hb⟩
    clear HC
    obtain ⟨g, cap0, rfl⟩ := own_form hO hcp
    have hgl : g < wa.heap.size := ((hO.lt g rfl).2)
    have HCL : Hid (∀ k (hk : k < ps.length), wa.cell? ⟨g, k, none⟩ = some (.string (mkS ps[k]))) := fun k hk => Ch.cell_of_owned hO k hk
    have HBA := Lib.hid hb
    have hsw : w.heap.size ≤ wa.heap.size := hb.size
    clear hO hb
    go_wp2
    go_loopw [5, 16] (fun vl v wr => ∃ (k : Nat) (acc : List TagL), v = .int .i64 (k : Int) ∧ PsE ps k acc ∧ OwT 23 wa.heap.size vl acc wr ∧ Below wa.heap.size wa wr) (fun _ v _ => ps.length - (intOf v).toNat)
    case atStart => exact ⟨0, [], rfl, HS0.out, World.ownsRow_nil _ _ _ _, Below.refl _ _⟩
    case round =>
      clear HS0
      obtain ⟨k, acc, rfl, hQ, hown, hB⟩ := hrel
      have hk : k ≤ ps.length := hQ.1
      have hac : acc.length ≤ k := hQ.2.1
      have HQ := Lib.hid hQ
      have HO := Lib.hid hown
      have HB := Lib.hid hB
      have HWR : Hid (Below w.heap.size w wr) := HBA.out.trans (hB.mono hsw)
      obtain ⟨ao, cap, rfl⟩ := own_len hown
      clear hQ hown
      by_cases hlt : k < ps.length
      · have hcell : wr.cell? ⟨g, k, none⟩ = some (.string (mkS ps[k])) := (hB.cell (p := ⟨g, k, none⟩) hgl).trans (HCL.out k hlt)
        clear hB
        have hpk := HPL.out _ (List.getElem_mem hlt)
        have HTR := Lib.hid (fun W => trim_r (mkS ps[k]) W (by rw [size_mkS]; unfold maxLen; omega))
        rw [data_mkS] at HTR
        have htl := trim_len ps[k]
        by_cases he : trimL ps[k] = []
        · have HQ1 := Lib.hid (pse_skip HQ.out hlt he)
          have hem : (mkS (trimL ps[k])).toList.isEmpty = true := by rw [he, Lib.toList_data]; rfl
          clear he hpk htl
          revert hcell hem HTR
          generalize mkS (trimL ps[k]) = y
          generalize mkS ps[k] = t
          intro hcell HTR hem
          go_wp2_with fail
          refine (HTR.out _).mono ?_
          rintro e w1 ⟨rfl, hw⟩
          rw [← hw]; clear hw
          go_wp2
          go_roundw
          case rel => exact ⟨k + 1, acc, by go_num, HQ1.out, HO.out, HB.out⟩
          case measure => simp [intOf]; omega
        · have hem : (mkS (trimL ps[k])).toList.isEmpty = false := by
            rw [Lib.toList_data, data_mkS]
            cases h : trimL ps[k] with
            | nil => exact absurd h he
            | cons => rfl
          have HONE := Lib.hid (fun W => OneR_c (mkS (trimL ps[k])) W (by rw [size_mkS]; omega))
          rw [data_mkS] at HONE
          cases ho : oneL (trimL ps[k]) with
          | none =>
            have HQ1 := Lib.hid (pse_bad HQ.out hlt he ho)
            rw [onV_no ho] at HONE
            clear he hpk htl ho
            revert hcell hem HTR HONE
            generalize mkS (trimL ps[k]) = y
            generalize mkS ps[k] = t
            intro hcell HTR hem HONE
            go_wp2_with fail
            refine (HTR.out _).mono ?_
            rintro e w1 ⟨rfl, hw⟩
            rw [← hw]; clear hw
            go_wp2_with fail
            refine (HTR.out _).mono ?_
            rintro e w1 ⟨rfl, hw⟩
            rw [← hw]; clear hw
            go_wp2_with fail
            refine (HONE.out _).mono ?_
            rintro e w2 ⟨rfl, hb2⟩
            have HB2 : Hid (Below w.heap.size w w2) := HWR.out.trans (hb2.mono HWR.out.size)
            clear hb2
            go_wp2
            go_ret3
            exact pav_no HQ1.out rfl (HB2.out.alloc HB2.out.size _)
          | some tg =>
            obtain ⟨tw, tx⟩ := tg
            have HQ1 := Lib.hid (pse_step HQ.out hlt he ho)
            rw [onV_mk ho] at HONE
            simp only at HONE
            clear he hpk htl ho
            revert hcell hem HTR HONE
            generalize mkS (trimL ps[k]) = y
            generalize mkS ps[k] = t
            intro hcell HTR hem HONE
            go_wp2_with fail
            refine (HTR.out _).mono ?_
            rintro e w1 ⟨rfl, hw⟩
            rw [← hw]; clear hw
            go_wp2_with fail
            refine (HTR.out _).mono ?_
            rintro e w1 ⟨rfl, hw⟩
            rw [← hw]; clear hw
            go_wp2_with fail
            refine (HONE.out _).mono ?_
            rintro e w2 ⟨rfl, hb2⟩
            have HB2 : Hid (Below wa.heap.size wa w2) := HB.out.trans (hb2.mono HB.out.size)
            have HO2 := Lib.hid (HO.out.go hb2)
            clear hb2
            have HD : Hid (∃ W2, W2 = (w2.alloc (.cells #[.bool tw, .string (mkS tx)] 23)).alloc (.cells #[.bool tw, .string (mkS tx)] 23) ∧ W2.heap[w2.heap.size + 1]? = some (.cells #[.bool tw, .string (mkS tx)] 23 (0, 0)) ∧ Below w2.heap.size w2 W2) := by
              refine ⟨_, rfl, ?_, ((Below.refl _ _).alloc (Nat.le_refl _) _).alloc (by simp) _⟩
              have := heap_alloc_new (w2.alloc (.cells #[.bool tw, .string (mkS tx)] 23)) (.cells #[.bool tw, .string (mkS tx)] 23)
              simpa using this
            obtain ⟨W2, hW2, hk3, hbW⟩ := HD.out
            have HK3 := Lib.hid hk3
            have HBW := Lib.hid hbW
            have HOW := Lib.hid (HO2.out.go hbW)
            have HW2 := Lib.hid hW2
            clear HD hk3 hbW hW2
            go_wp2_with (at_builtin; rw [← HW2.out]; refine wpList_append_own _ rfl _ _ 42 rfl wa.heap.size 23 i0 _ 2 24 Tryd.underlying42 hi hz0 hz1 hz2 rfl (by decide) _ _ _ rfl HOW.out ⟨w2.heap.size + 1, 0, none⟩ 1 1 [.bool tw, .string (mkS tx)] rfl rfl ?c1 ?c2 ?c3 ?c4 ?c5 ?_)
            case c1 =>
              intro j v hj
              have hj5 : j < 2 := by
                rcases Nat.lt_or_ge j 2 with h | h
                · exact h
                · rw [List.getElem?_eq_none (by show 2 ≤ j; exact h)] at hj; cases hj
              have ea : (⟨w2.heap.size + 1, 0, none⟩ : Addr).add j = ⟨w2.heap.size + 1, j, none⟩ := by unfold Addr.add; split <;> simp_all
              rw [ea, cell_of_row _ _ j _ _ _ HK3.out]
              match j, hj5 with
              | 0, _ => exact hj
              | 1, _ => exact hj
            case c2 => intro v hv; simp at hv; rcases hv with rfl | rfl <;> rfl
            case c3 => unfold maxLen; omega
            case c4 => omega
            case c5 => have := HB2.out.size; have := HBW.out.size; omega
            intro v' w5 hown' hgrow _
            have HO5 : Hid (OwT 23 wa.heap.size v' (acc ++ [(tw, tx)]) w5) := by
              show OwT 23 wa.heap.size v' (acc ++ [(tw, tx)]) w5
              unfold OwT
              rw [tgC_snoc, List.length_append]
              exact hown'
            have HB5 : Hid (Below wa.heap.size wa w5) := by
              have hb := HB2.out.trans (HBW.out.mono HB2.out.size)
              exact hb.grown hgrow hb.size (fun k hk => (HOW.out.lt k hk).1)
            clear hown' hgrow
            go_wp2
            go_roundw
            case rel => exact ⟨k + 1, acc ++ [(tw, tx)], by go_num, HQ1.out, HO5.out, HB5.out⟩
            case measure => simp [intOf]; omega
      · have HQ1 := Lib.hid (pse_end HQ.out (by omega))
        clear hB
        go_wp2
        go_ret3
        exact pav_some HQ1.out rfl (by simp) (World.ownsRow.mono HO.out hsw) HWR.out
end Go.Proofs.YtojmjdgapfcjfaaDoor.Et
