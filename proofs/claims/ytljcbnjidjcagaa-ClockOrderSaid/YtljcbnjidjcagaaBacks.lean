/- Plain facts on the texts of times: what is read of a time's text, and what a text that is read is printed as; and the chapter's own examples hold: awake returns true; no condition. -/
import Derived.Test.YtljcbnjidjcagaaParsesR
namespace Go.Proofs.Ytljcbnjidjcagaa
open Go.RowKit
set_option linter.unusedSimpArgs false
set_option linter.unusedVariables false

theorem txt_len (y m d r : Int) : (txt y m d r).length = 20 := by unfold txt; simp [digs_len]
theorem txt_p0 (y m d r : Int) : ((txt y m d r).drop 0).take (4 - 0) = digs 4 y := by simp [txt, digs]
theorem txt_p1 (y m d r : Int) : ((txt y m d r).drop 5).take (7 - 5) = digs 2 m := by simp [txt, digs]
theorem txt_p2 (y m d r : Int) : ((txt y m d r).drop 8).take (10 - 8) = digs 2 d := by simp [txt, digs]
theorem txt_p3 (y m d r : Int) : ((txt y m d r).drop 11).take (13 - 11) = digs 2 (r / 3600) := by simp [txt, digs]
theorem txt_p4 (y m d r : Int) : ((txt y m d r).drop 14).take (16 - 14) = digs 2 (r % 3600 / 60) := by simp [txt, digs]
theorem txt_p5 (y m d r : Int) : ((txt y m d r).drop 17).take (19 - 17) = digs 2 (r % 60) := by simp [txt, digs]
theorem txt_sep (y m d r : Int) : sepB (txt y m d r) = true := by
  apply decide_eq_true
  simp [txt, digs, List.getD]
theorem txt_form (y m d r : Int) : formB (txt y m d r) = true := by
  refine (form_parts _ (txt_len y m d r)).2 ⟨txt_sep y m d r, fun i hi => ?_⟩
  have : i = 0 ∨ i = 1 ∨ i = 2 ∨ i = 3 ∨ i = 4 ∨ i = 5 := by omega
  rcases this with rfl | rfl | rfl | rfl | rfl | rfl
  · show (((txt y m d r).drop 0).take (4 - 0)).all isD = true; rw [txt_p0]; exact digs_isD _ _
  · show (((txt y m d r).drop 5).take (7 - 5)).all isD = true; rw [txt_p1]; exact digs_isD _ _
  · show (((txt y m d r).drop 8).take (10 - 8)).all isD = true; rw [txt_p2]; exact digs_isD _ _
  · show (((txt y m d r).drop 11).take (13 - 11)).all isD = true; rw [txt_p3]; exact digs_isD _ _
  · show (((txt y m d r).drop 14).take (16 - 14)).all isD = true; rw [txt_p4]; exact digs_isD _ _
  · show (((txt y m d r).drop 17).take (19 - 17)).all isD = true; rw [txt_p5]; exact digs_isD _ _
/-- what is read of a time's text -/
theorem TX.par {t : Int} {l : List UInt8} (h : TX t l) (h1 : t ≤ 137438953472) : parT l = t ∧ parE l = 0 := by
  obtain ⟨y, m, d, hv, hn, rfl⟩ := h
  obtain ⟨v1, v2, v3, v4, v5, v6⟩ := vld_of hv
  have hL := (len_bd y m).2
  have f0 : fld (txt y m d (t % 86400)) 0 4 = y := by unfold fld; rw [txt_p0]; exact numL_digs 4 _ (by omega) (by show y < 10000; omega)
  have f1 : fld (txt y m d (t % 86400)) 5 7 = m := by unfold fld; rw [txt_p1]; exact numL_digs 2 _ (by omega) (by show m < 100; omega)
  have f2 : fld (txt y m d (t % 86400)) 8 10 = d := by unfold fld; rw [txt_p2]; exact numL_digs 2 _ (by omega) (by show d < 100; omega)
  have f3 : fld (txt y m d (t % 86400)) 11 13 = t % 86400 / 3600 := by unfold fld; rw [txt_p3]; exact numL_digs 2 _ (by omega) (by show t % 86400 / 3600 < 100; omega)
  have f4 : fld (txt y m d (t % 86400)) 14 16 = t % 86400 % 3600 / 60 := by unfold fld; rw [txt_p4]; exact numL_digs 2 _ (by omega) (by show t % 86400 % 3600 / 60 < 100; omega)
  have f5 : fld (txt y m d (t % 86400)) 17 19 = t % 86400 % 60 := by unfold fld; rw [txt_p5]; exact numL_digs 2 _ (by omega) (by show t % 86400 % 60 < 100; omega)
  have eB : tmB (txt y m d (t % 86400)) = true := by
    unfold tmB
    rw [txt_form, f0, f1, f2, f3, f4, f5, hv, Bool.true_and, Bool.true_and]
    exact decide_eq_true (by omega)
  have eV : tmV (txt y m d (t % 86400)) = t := by
    unfold tmV
    rw [f0, f1, f2, f3, f4, f5, hn]
    omega
  unfold parT parE
  rw [eB, eV]
  simp [h1]

theorem cut_20 (l : List UInt8) (hl : l.length = 20) (hs : sepB l = true) :
    l = (l.drop 0).take (4 - 0) ++ [45] ++ (l.drop 5).take (7 - 5) ++ [45] ++ (l.drop 8).take (10 - 8) ++ [84] ++ (l.drop 11).take (13 - 11) ++ [58] ++ (l.drop 14).take (16 - 14) ++ [58] ++ (l.drop 17).take (19 - 17) ++ [90] := by
  obtain ⟨s1, s2, s3, s4, s5, s6⟩ := of_decide_eq_true hs
  match l, hl with
  | [x0, x1, x2, x3, x4, x5, x6, x7, x8, x9, x10, x11, x12, x13, x14, x15, x16, x17, x18, x19], _ =>
    simp only [List.getD, List.getElem?_cons_zero, List.getElem?_cons_succ, Option.getD_some] at s1 s2 s3 s4 s5 s6
    subst s1 s2 s3 s4 s5 s6
    rfl
/-- a text that is read is the text of what is read -/
theorem par_TX {l : List UInt8} (h : parE l = 0) : 0 ≤ parT l ∧ parT l ≤ 137438953472 ∧ TX (parT l) l := by
  unfold parE at h
  split at h
  · rename_i hB
    split at h
    · rename_i hV
      have eT : parT l = tmV l := by unfold parT; rw [if_pos ⟨hB, hV⟩]
      rw [eT]
      unfold tmB at hB
      rw [Bool.and_eq_true, Bool.and_eq_true] at hB
      obtain ⟨⟨hf, hv⟩, hr⟩ := hB
      obtain ⟨r1, r2, r3⟩ := of_decide_eq_true hr
      have hl := ((form_iff l).1 hf).1
      have p1 := piece_d hf 0 4 (by decide) (by decide) (by decide)
      have p2 := piece_d hf 5 7 (by decide) (by decide) (by decide)
      have p3 := piece_d hf 8 10 (by decide) (by decide) (by decide)
      have p4 := piece_d hf 11 13 (by decide) (by decide) (by decide)
      have p5 := piece_d hf 14 16 (by decide) (by decide) (by decide)
      have p6 := piece_d hf 17 19 (by decide) (by decide) (by decide)
      have b4 := fld_bd2 rfl p4
      have b5 := fld_bd2 rfl p5
      have b6 := fld_bd2 rfl p6
      have hd := day_bd hv
      have e1 : digs 4 (fld l 0 4) = (l.drop 0).take (4 - 0) := by have := digs_numL _ p1.1; rw [p1.2] at this; exact this
      have e2 : digs 2 (fld l 5 7) = (l.drop 5).take (7 - 5) := by have := digs_numL _ p2.1; rw [p2.2] at this; exact this
      have e3 : digs 2 (fld l 8 10) = (l.drop 8).take (10 - 8) := by have := digs_numL _ p3.1; rw [p3.2] at this; exact this
      have e4 : digs 2 (fld l 11 13) = (l.drop 11).take (13 - 11) := by have := digs_numL _ p4.1; rw [p4.2] at this; exact this
      have e5 : digs 2 (fld l 14 16) = (l.drop 14).take (16 - 14) := by have := digs_numL _ p5.1; rw [p5.2] at this; exact this
      have e6 : digs 2 (fld l 17 19) = (l.drop 17).take (19 - 17) := by have := digs_numL _ p6.1; rw [p6.2] at this; exact this
      have eV : tmV l = dayN (fld l 0 4) (fld l 5 7) (fld l 8 10) * 86400 + (fld l 11 13 * 3600 + fld l 14 16 * 60 + fld l 17 19) := rfl
      refine ⟨by omega, hV, fld l 0 4, fld l 5 7, fld l 8 10, hv, by omega, ?_⟩
      have q3 : tmV l % 86400 / 3600 = fld l 11 13 := by omega
      have q4 : tmV l % 86400 % 3600 / 60 = fld l 14 16 := by omega
      have q5 : tmV l % 86400 % 60 = fld l 17 19 := by omega
      unfold txt
      rw [q3, q4, q5, e1, e2, e3, e4, e5, e6]
      exact cut_20 l hl ((form_parts l hl).1 hf).1
    · cases h
  · cases h

theorem TX_0 : TX 0 [49, 57, 55, 48, 45, 48, 49, 45, 48, 49, 84, 48, 48, 58, 48, 48, 58, 48, 48, 90] := ⟨1970, 1, 1, by decide +kernel, by decide +kernel, by decide +kernel⟩
theorem aw_print (w : World) : Calls Try.prog 13 #[.int .i64 0] w fun e w' => e = .returned (.tuple #[.string ⟨#[49, 57, 55, 48, 45, 48, 49, 45, 48, 49, 84, 48, 48, 58, 48, 48, 58, 48, 48, 90]⟩, .int .i64 0]) ∧ Below w.heap.size w w' :=
  (print_yes 0 w (by decide) (by decide)).mono fun e w' h => by
    obtain ⟨l, hl, rfl, hb⟩ := h
    obtain rfl := hl.one TX_0
    exact ⟨rfl, hb⟩
theorem aw_par : parT [50, 48, 48, 48, 45, 48, 50, 45, 50, 57, 84, 48, 48, 58, 48, 48, 58, 48, 49, 90] = 951782401 ∧ parE [50, 48, 48, 48, 45, 48, 50, 45, 50, 57, 84, 48, 48, 58, 48, 48, 58, 48, 49, 90] = 0 := by decide +kernel
theorem aw_parse (w : World) : Calls Try.prog 14 #[.string ⟨#[50, 48, 48, 48, 45, 48, 50, 45, 50, 57, 84, 48, 48, 58, 48, 48, 58, 48, 49, 90]⟩] w fun e w' => e = .returned (.tuple #[.int .i64 951782401, .int .i64 0]) ∧ Below w.heap.size w w' := by
  have h := parse_c ⟨#[50, 48, 48, 48, 45, 48, 50, 45, 50, 57, 84, 48, 48, 58, 48, 48, 58, 48, 49, 90]⟩ w (by decide)
  have e : (ByteArray.mk #[50, 48, 48, 48, 45, 48, 50, 45, 50, 57, 84, 48, 48, 58, 48, 48, 58, 48, 49, 90]).data.toList = [50, 48, 48, 48, 45, 48, 50, 45, 50, 57, 84, 48, 48, 58, 48, 48, 58, 48, 49, 90] := rfl
  rw [e, aw_par.1, aw_par.2] at h
  exact h

set_option maxHeartbeats 1000000 in
theorem awake_c (w : World) : Calls Try.prog 10 #[] w fun e w' => e = .returned (.bool true) ∧ Below w.heap.size w w' := by
  have h1 := Lib.hid (fun W => aw_print W)
  have h2 := Lib.hid (fun W => aw_parse W)
  go_enter Try.func10, Try.ntmps10
  go_wp2_with fail
  refine (h1.out _).mono ?_
  rintro e w1 ⟨rfl, hb1⟩
  have B1 := Lib.hid hb1
  clear hb1
  go_wp2_with fail
  refine (h2.out _).mono ?_
  rintro e w2 ⟨rfl, hb2⟩
  have B2 := Lib.hid hb2
  clear hb2
  go_wp2
  go_ret
  exact ⟨rfl, B1.out.trans (B2.out.mono B1.out.size)⟩
end Go.Proofs.Ytljcbnjidjcagaa
