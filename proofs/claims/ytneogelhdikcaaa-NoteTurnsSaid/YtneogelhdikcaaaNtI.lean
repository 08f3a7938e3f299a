/- The contract of package note's Step: at every outbox of the call's own, whatever groups; no other condition. -/
import Derived.Test.YtneogelhdikcaaaNtH
import Derived.Deep.RegionHeld3
namespace Go.Proofs.Ytneogelhdikcaaa.Nt
open Go.RowKit Go.Lib Go.Maps
set_option linter.unusedSimpArgs false
set_option linter.unusedVariables false

theorem Rd.len {n : Nat} {cs : List Value} {v : Value} {w : World} (h : Rd n cs v w) {m : Nat} (e : n = m) : Rd m cs v w := by subst e; exact h
def StQ (B c : Nat) (gb mb : Option Nat) (m : Int) (now : List Tx) (E : List Ent) (fl : Int) (n : Nat) (rev : Int) (gs : List Tx) (w : World) (e : Ending) (w' : World) : Prop :=
  ∃ v mb' gb', e = .returned v ∧ RdE v (nums rev n (told (canon gs) now)) w' ∧ IsOb B c gb' mb' m (canon gs) ((E ++ nums rev n (told (canon gs) now)).drop (keepN m (E ++ nums rev n (told (canon gs) now)))) (keepF m fl (E ++ nums rev n (told (canon gs) now))) ((n : Int) + ((told (canon gs) now).length : Nat)) w' ∧ Ch c gb w w' ∧ NewB gb gb' w ∧ (∃ b, mb' = some b ∧ w.heap.size ≤ b) ∧ (∀ g, v.ownBlock = some g → w.heap.size ≤ g ∧ gb' ≠ some g)
set_option maxRecDepth 100000 in
set_option maxHeartbeats 8000000 in
theorem Step_c {B c : Nat} {gb mb : Option Nat} {m : Int} {now : List Tx} {E : List Ent} {fl : Int} {n : Nat} {w : World} (h : IsOb B c gb mb m now E fl (n : Nat) w) (hB : B ≤ w.heap.size) (rev : Int) (ao : Option Addr) (cap : Nat) (gs : List Tx)
    (hR : RdT (.slice ao gs.length cap) gs w) (hl : gs.length ≤ 1000) (hsz : ∀ x ∈ gs, (mkS x).size ≤ maxLen) (hnw : now.length ≤ 1000) (hE : E.length ≤ 500000) (hn : n ≤ 500000) (hmi : m ≤ 9223372036854775807) :
    Calls Try.prog 9 #[.pointer (some ⟨c, 0, none⟩), .int .i64 rev, .slice ao gs.length cap] w (StQ B c gb mb m now E fl n rev gs w) := by
  obtain ⟨bb, hbb⟩ : ∃ bb, bb = w.heap.size := ⟨_, rfl⟩
  have HSO := Lib.hid (setOf_c ao cap gs w hR hl hsz)
  rw [← hbb] at HSO
  obtain ⟨v, hv, ho, hgb⟩ := h.ex
  obtain ⟨c0, c1, c2, c3, c4⟩ := cells5 hv
  obtain ⟨tl, htl⟩ : ∃ tl, tl = told (canon gs) now := ⟨_, rfl⟩
  have htn : tl.length ≤ 2000 := by
    have h1 := told_len (now := canon gs) (old := now)
    have h2 := canon_len gs
    rw [htl]; omega
  have HQ0 : Hid (∀ e w', (∃ v mb' gb', e = .returned v ∧ RdE v (nums rev n tl) w' ∧ IsOb B c gb' mb' m (canon gs) ((E ++ nums rev n tl).drop (keepN m (E ++ nums rev n tl))) (keepF m fl (E ++ nums rev n tl)) ((n : Int) + (tl.length : Nat)) w' ∧ Ch c gb w w' ∧ NewB gb gb' w ∧ (∃ b, mb' = some b ∧ w.heap.size ≤ b) ∧ (∀ g, v.ownBlock = some g → w.heap.size ≤ g ∧ gb' ≠ some g)) → StQ B c gb mb m now E fl n rev gs w e w') := by
    rw [htl]; exact fun _ _ h => h
  have HTL := Lib.hid htl
  have HH := Lib.hid h
  have HBB := Lib.hid hbb
  have hcl := h.lt
  clear h hv ho htl hbb hR hsz
  go_enter Try.func9, Try.ntmps9
  go_wp2_with fail
  refine HSO.out.mono ?_
  rintro e w1 ⟨rfl, hS1, hb1⟩
  have h1 := HH.out.go (by rw [← HBB.out]; rw [HBB.out] at hb1 ⊢; exact hb1)
  obtain ⟨v1, hv1, ho1, hgb1⟩ := h1.ex
  obtain ⟨d0, d1, d2, d3, d4⟩ := cells5 hv1
  have fd1 := frzB hv1 1
  have hbc : bb ≠ c := by rw [HBB.out]; omega
  obtain ⟨W2, hW2⟩ : ∃ W2, W2 = w1.setCell ⟨c, 1, none⟩ (.map (some bb)) := ⟨_, rfl⟩
  have hk2 : W2.heap[c]? = some (.cells #[.int .i64 m, .map (some bb), v1, .int .i64 fl, .int .i64 (n : Nat)] 54 (0, 0)) := by rw [hW2]; simpa using blk_set hv1 1 (.map (some bb))
  have hs2 : W2.heap.size = w1.heap.size := by rw [hW2, size_set]
  have hgbb : gb ≠ some bb := fun e => by have := (HH.out.row _ e).2; have := HBB.out; omega
  have hob2 : IsOb B c gb (some bb) m (canon gs) E fl (n : Nat) W2 := by
    refine ⟨⟨v1, hk2, ho1.kept (Nat.le_of_eq hs2.symm) (fun q hq => by rw [hW2]; exact set_oth _ _ _ _ (fun e => HH.out.ne (by rw [← hgb1, hq, e]))), hgb1⟩, HH.out.ne, fun e => hbc (by injection e), fun q hq => by injection hq with hq; rw [← hq]; exact hgbb, .inr ⟨bb, rfl, ?_⟩, fun q hq => by injection hq with hq; have := HBB.out; omega⟩
    refine (hS1.congr (fun x => mem_canon.symm)).keep ?_
    rw [hW2]; exact set_oth _ _ _ _ hbc
  have hmp2 : SetO mb now W2 := h1.mp.keep (fun q hq => by rw [hW2]; exact set_oth _ _ _ _ (fun e => HH.out.mne (by rw [hq, e])))
  have hC2 : Ch c gb w W2 := by
    refine (Ch.of (by rw [HBB.out] at hb1; exact hb1)).tr ?_
    rw [hW2]; exact Ch.set _ _ _
  have HOB2 := Lib.hid hob2
  have HMP2 := Lib.hid hmp2
  have HC2 := Lib.hid hC2
  have HC2s : Hid (w.heap.size < W2.heap.size) := by show _ < _; have := hS1.lt; have := HBB.out; omega
  have HW2 := Lib.hid hW2
  have PP : Hid (Calls Try.prog 22 #[.map (some bb), .map mb, .bool true] W2.drew (fun e V => ∃ u1 l1, e = .returned u1 ∧ IsOnly (canon gs) now true l1 ∧ l1.length ≤ 100000 ∧ OwG (W2.heap.size + 1) 4 l1.length u1 (eC (bare l1)) V ∧ Below W2.heap.size W2 V ∧ V.cell? ⟨c, 1, none⟩ = some (.map (some bb)))) := by
    refine (only_c (some bb) (canon gs) mb now true W2.drew (hob2.mp.go (bdr W2)) (hmp2.go (bdr W2))).mono ?_
    rintro e V ⟨u1, l1, rfl, h1, h2, h3, h4⟩
    have hb : Below W2.heap.size W2 V := (bdr W2).trans h4
    exact ⟨u1, l1, rfl, h1, h2, OwG.of_own h3, hb, (hb.cell (p := ⟨c, 1, none⟩) (by rw [hs2]; exact Nat.lt_of_lt_of_le hcl (by have := hb1.size; exact this))).trans (cells5 hk2).2.1⟩
  have PR : Hid (∀ V, Below W2.heap.size W2 V → Calls Try.prog 22 #[.map mb, .map (some bb), .bool false] V (fun e V' => ∃ u2 l2, e = .returned u2 ∧ IsOnly now (canon gs) false l2 ∧ l2.length ≤ 100000 ∧ RdE u2 (bare l2) V' ∧ Below V.heap.size V V' ∧ V'.cell? ⟨c, 1, none⟩ = some (.map (some bb)))) := fun V hV => by
    refine (only_c mb now (some bb) (canon gs) false V (hmp2.go hV) (hob2.mp.go hV)).mono ?_
    rintro e V' ⟨u1, l1, rfl, h1, h2, h3, h4⟩
    have hb : Below W2.heap.size W2 V' := hV.trans (h4.mono hV.size)
    exact ⟨u1, l1, rfl, h1, h2, (own_rd h3).len (bare_len _).symm, h4, (hb.cell (p := ⟨c, 1, none⟩) (by rw [hs2]; exact Nat.lt_of_lt_of_le hcl (by have := hb1.size; exact this))).trans (cells5 hk2).2.1⟩
  have HXD : W2.drew.cell? ⟨c, 1, none⟩ = some (.map (some bb)) := (cells5 hk2).2.1
  have HXD0 : W2.cell? ⟨c, 1, none⟩ = some (.map (some bb)) := (cells5 hk2).2.1
  have hcW2 : c < W2.heap.size := (Array.getElem?_eq_some_iff.1 hk2).1
  obtain ⟨i0, hi, hz0, hz1, hz2⟩ := info_parts infoE
  have APP : Hid (∀ (u1 u2 : Value) (l1 l2 : List TB) (V V' : World), OwG (W2.heap.size + 1) 4 l1.length u1 (eC (bare l1)) V → Below W2.heap.size W2 V → Below V.heap.size V V' → RdE u2 (bare l2) V' → l1.length ≤ 100000 → l2.length ≤ 100000 → ∃ v3 W3, (∀ ty, (Builtin.append_ #[29, 29] ty #[u1, u2]).run Try.prog V' = .ok v3 W3) ∧ OwG (W2.heap.size) 4 (l1 ++ l2).length v3 (eC (bare (l1 ++ l2))) W3 ∧ Below W2.heap.size W2 W3 ∧ W3.cell? ⟨c, 1, none⟩ = some (.map (some bb))) := fun u1 u2 l1 l2 V V' h1 h2 h3 h4 h5 h6 => by
    have hV' : Below W2.heap.size W2 V' := h2.trans (h3.mono h2.size)
    have hl2 := bare_len l2
    obtain ⟨v3, W3, hr, hO, hg, hnb⟩ := ap_run (t := 29) Try.underlying29 hi hz0 hz1 hz2 rfl ((h1.go h3).mono (Nat.le_succ _)) h4 (eC_len _) (eC_one _) hV'.size (by unfold maxLen; rw [hl2]; omega) (by show (l1.length + (bare l2).length) * 40 ≤ 140737488355328; rw [hl2]; omega)
    have hb3 : Below W2.heap.size W2 W3 := hV'.trans ⟨hg.os, hg.tape, hg.output, hg.size, fun k hk => hg.block k (Nat.lt_of_lt_of_le hk hV'.size) (fun e => by have := (h1.lt k e.symm).1; omega)⟩
    refine ⟨v3, W3, hr, ?_, hb3, (hb3.cell (p := ⟨c, 1, none⟩) hcW2).trans HXD0⟩
    rw [hl2] at hO
    rw [List.length_append, show bare (l1 ++ l2) = bare l1 ++ bare l2 by simp [bare], eC_app]; exact hO
  clear h1 hv1 ho1 hgb1 hW2 hk2 hs2 hob2 hmp2 hC2 hS1 hb1 HSO c0 c1 c2 c3 c4 d2 d3 d4
  go_upto_region 5 with (fail)
  rw [← HW2.out]
  clear d0 d1 fd1
  go_region_held3 (fun V => V.cell? ⟨c, 1, none⟩ = some (.map (some bb))) (first | exact HXD | exact HX1 | exact HX2 | exact HX3) (first | (go_at_call 22; (with_reducible refine PP.out.mono ?_); rintro e V1 ⟨u1, l1, rfl, hon1, hll1, hOW1, hBV1, HX1⟩; have HON1 := Lib.hid hon1; have HOW1 := Lib.hid hOW1; have HBV1 := Lib.hid hBV1; have HP := Lib.hid (PR.out V1 hBV1); clear hon1 hOW1 hBV1) | (go_at_call 22; (with_reducible refine HP.out.mono ?_); rintro e V2 ⟨u2, l2, rfl, hon2, hll2, hRD2, hBV2, HX2⟩; obtain ⟨v3, W3, hr3, hO3, hB3, HX3⟩ := APP.out u1 u2 l1 l2 V1 V2 HOW1.out HBV1.out hBV2 hRD2 hll1 hll2; have HR3 := Lib.hid hr3; have HO3 := Lib.hid hO3; have HB3 := Lib.hid hB3; have HON2 := Lib.hid hon2; clear hon2 hRD2 hBV2 hr3 hO3 hB3) | (refine step_append_eq rfl _ _ 29 rfl rfl rfl HR3.out ?_))
  all_goals
    have HSR := Lib.hid (sort_c W2.heap.size v3 (l1 ++ l2) W3 HO3.out (by rw [List.length_append]; omega))
    have hvl3 := HO3.out.lt
    have HVL3 := Lib.hid hvl3
    clear hvl3 HO3 HR3 HOW1 HBV1 HX1 HX2 HX3 HXD HXD0 PP PR HP APP
    go_wp2_with fail
    (with_reducible refine HSR.out.mono ?_)
    rintro e w4 ⟨rfl, gs', hp4, hs4, hO4, hg4⟩
    have e4 : gs' = tl := by rw [HTL.out]; exact told_of (asc_canon gs) HON1.out HON2.out hp4 hs4
    subst e4
    have hb4 : Below W2.heap.size W2 w4 := HB3.out.trans ⟨hg4.os, hg4.tape, hg4.output, hg4.size, fun k hk => hg4.block k (Nat.lt_of_lt_of_le hk HB3.out.size) (fun e => by have := (HVL3.out k e.symm).1; omega)⟩
    have HOB4 : Hid (IsOb B c gb (some bb) m (canon gs) E fl ((n : Int) + ((0 : Nat) : Int)) w4) := by
      have := HOB2.out.go hb4
      show IsOb _ _ _ _ _ _ _ _ _ _
      simpa using this
    have HC4 : Hid (Ch c gb w w4) := HC2.out.chain hb4
    have HO4 : Hid (OwW W2.heap.size 4 gs'.length v3 (eC (half rev n gs' 0)) w4) := by rw [half_zero]; exact hO4
    obtain ⟨_, a3, cp3, e3, _⟩ := HO4.out
    subst e3
    clear hp4 hs4 hO4 hg4 hb4 HSR HON1 HON2 HB3 HVL3 hll1 hll2 HTL HOB2 HMP2 HC2 HW2
    go_wp2
    go_loopw [38] (fun iv wr => ∃ j : Nat, j ≤ gs'.length ∧ iv = .int .i64 j ∧ Hid (IsOb B c gb (some bb) m (canon gs) E fl ((n : Int) + (j : Int)) wr) ∧ Hid (OwW W2.heap.size 4 gs'.length (.slice a3 gs'.length cp3) (eC (half rev n gs' j)) wr) ∧ Hid (Ch c gb w wr)) (fun iv _ => gs'.length - (intOf iv).toNat)
    case atStart => exact ⟨0, by omega, rfl, HOB4, HO4, HC4⟩
    case round =>
      obtain ⟨j, hj, rfl, HOB, HO, HC⟩ := hrel
      clear HOB4 HO4 HC4
      by_cases hlt : j < gs'.length
      · obtain ⟨g, o, cap', e, hnc, hg1, hg2, hrd, hth⟩ := HO.out.at (by omega)
        injection e with e1 e2 e3
        subst e1 e3
        have hj0 : (0 : Int) ≤ (j : Int) := by omega
        have hjl : (j : Int) < (gs'.length : Int) := by omega
        have hcw := HOB.out.lt
        have hgc : g ≠ c := by omega
        have hggb : gb ≠ some g := fun e => by have := (HH.out.row g e).2; have := HC2s.out; omega
        have hgmb : (some bb : Option Nat) ≠ some g := fun e => by injection e with e; have := HC2s.out; have := HBB.out; omega
        obtain ⟨la, hla⟩ : ∃ la : Int, la = (n : Int) + (j : Int) := ⟨_, rfl⟩
        have hla0 : 0 ≤ la := by omega
        have hla1 : la ≤ 1000000 := by omega
        rw [← hla] at HOB
        obtain ⟨vE, hvE, _, _⟩ := HOB.out.ex
        obtain ⟨c0, c1, c2, c3, c4⟩ := cells5 hvE
        have f4 := frzB hvE 4
        obtain ⟨hR1, hR2⟩ := round_ob HOB.out g (o + j * 4) [.int .i64 (la + 1), .int .i64 rev] hgc hggb hgmb
        obtain ⟨V1, hV1⟩ : ∃ V1, V1 = wr.setCell ⟨c, 4, none⟩ (.int .i64 (la + 1)) := ⟨_, rfl⟩
        rw [← hV1] at hR1 hR2
        have hkV1 : V1.heap[c]? = some (.cells #[.int .i64 m, .map (some bb), vE, .int .i64 fl, .int .i64 (la + 1)] 54 (0, 0)) := by rw [hV1]; simpa using blk_set hvE 4 (.int .i64 (la + 1))
        have hgV1 : V1.heap[g]? = wr.heap[g]? := by rw [hV1]; exact set_oth _ _ _ _ hgc
        obtain ⟨j0, j1, j2, j3, j4⟩ := cells5 hkV1
        have hOV1 := HO.out.kept (W := V1) (by rw [hV1, size_set]; exact Nat.le_refl _) (fun q hq => by injection hq with hq; have : g = q := hq; rw [← this]; exact hgV1)
        have hjh : j < (half rev n gs' j).length := by rw [half_len]; exact hlt
        have hOV3 := OwW.set2 (L := half rev n gs' j) (j := j) (by rw [half_len]; exact hOV1) hjh (la + 1) rev
        rw [half_at hlt, half_len, hla, ← half_succ hlt, ← hla] at hOV3
        have hthV1 : V1.there g o (gs'.length * 4) := fun i hi => by
          rw [World.cell?_of_block (w := wr) (a := ⟨g, o + i, none⟩) hgV1, World.frozen?_of_block (w := wr) (a := ⟨g, o + i, none⟩) hgV1]; exact hth i hi
        obtain ⟨x0, hx0⟩ := Option.isSome_iff_exists.1 (hthV1 (j * 4) (by omega)).1
        obtain ⟨x1, hx1⟩ := Option.isSome_iff_exists.1 (hthV1 (j * 4 + 1) (by omega)).1
        have fx0 := (hthV1 (j * 4) (by omega)).2
        have fx1 := (hthV1 (j * 4 + 1) (by omega)).2
        rw [← Nat.add_assoc] at hx1 fx1
        obtain ⟨V3, hV3⟩ : ∃ V3, V3 = (V1.setCell ⟨g, o + j * 4, none⟩ (.int .i64 (la + 1))).setCell ⟨g, o + j * 4 + 1, none⟩ (.int .i64 rev) := ⟨_, rfl⟩
        have hV3' : V1.setCells g (o + j * 4) [.int .i64 (la + 1), .int .i64 rev] = V3 := by rw [hV3]; rfl
        rw [hV3'] at hR1 hR2 hOV3
        have HOB3 : Hid (IsOb B c gb (some bb) m (canon gs) E fl ((n : Int) + ((j + 1 : Nat) : Int)) V3) := by
          have : (n : Int) + ((j + 1 : Nat) : Int) = la + 1 := by omega
          rw [this]; exact hR1
        have HO3 := Lib.hid hOV3
        have HC3 : Hid (Ch c gb w V3) := ⟨hR2.os.trans HC.out.os, hR2.tape.trans HC.out.tape, hR2.output.trans HC.out.output, Nat.le_trans HC.out.size hR2.size, fun k hk h1 h2 => by
          rw [hR2.block k (Nat.lt_of_lt_of_le hk HC.out.size) h1 (fun e => by injection e with e; have := HC2s.out; omega)]
          exact HC.out.block k hk h1 h2⟩
        have HV1 := Lib.hid hV1
        have HV3 := Lib.hid hV3
        clear hla hvE hR1 hR2 hV1 hkV1 hgV1 hOV1 hjh hOV3 hthV1 hV3 hV3' HOB HO HC hrd hth hggb hgmb hnc hg1
        go_upto_region 11 with (fail)
        rw [← HV1.out]
        clear c0 c1 c2 c3 c4 f4
        go_wp2
        rw [← HV3.out]
        go_roundw
        case rel => exact ⟨j + 1, by omega, by go_num, HOB3, HO3, HC3⟩
        case measure => simp [intOf]; omega
      · have hjl : ¬ (j : Int) < (gs'.length : Int) := by omega
        have hjj : j = gs'.length := by omega
        subst hjj
        rw [half_all] at HO
        have hXl : (nums rev n gs').length = gs'.length := nums_len _ _ _
        have HK := Lib.hid (keep_c HOB.out (Nat.le_trans hB HC.out.size) (.slice a3 gs'.length cp3) (nums rev n gs') (HO.out.rd.len hXl.symm) (by omega) (by omega) hmi)
        go_wp2_with fail
        (with_reducible refine HK.out.mono ?_)
        rintro e w9 ⟨rfl, gb9, hob9, hch9, hnb9⟩
        have HF : Hid (StQ B c gb mb m now E fl n rev gs w (.returned (.slice a3 gs'.length cp3)) w9) := by
          refine HQ0.out _ _ ⟨_, some bb, gb9, rfl, ?_, hob9, HC.out.tr hch9, hnb9.lift HC.out.size, ⟨bb, rfl, by have := HBB.out; omega⟩, fun q hq => ?_⟩
          rotate_left
          · have h1 := HO.out.lt q hq
            have h2 := HC2s.out
            refine ⟨by omega, fun e => ?_⟩
            rcases hnb9 with e2 | e2 | ⟨g9, e2, hge⟩
            · have := (HH.out.row q (e2 ▸ e)).2; omega
            · rw [e2] at e; cases e
            · rw [e2] at e; injection e with e; omega
          refine (OwW.rd (HO.out.kept hch9.size (fun q hq => ?_))).len hXl.symm
          have h1 := HO.out.lt q hq
          exact hch9.block q h1.2 (by omega) (fun e => by have := (HH.out.row q e.symm).2; have := HC2s.out; omega)
        clear hob9 hch9 hnb9 HK HOB HO HC
        go_wp2
        go_ret
        exact HF.out
end Go.Proofs.Ytneogelhdikcaaa.Nt
