/- Contracts and plain mathematics of some packages' functions, laid together; conditions as each one says. -/
import Derived.Test.YtpgllcdcpdeicaaGreatDoorJvQi
import Derived.Test.YtpgllcdcpdeicaaGreatDoorJvQj
namespace Go.Proofs.YtpgllcdcpdeicaaGreatDoor.Jv
open Jt
open Go.RowKit Go.ChangeMaps Go.MapKept Go.WideMaps
set_option linter.unusedSimpArgs false
set_option linter.unusedVariables false

theorem leafQ {g : Nat} {s : ByteArray} {k n : Int} {is : Bool} {t : List UInt8} {st1 : QS} {W : World} {e : Ending} {w' : World} (h : e = .returned (.agg #[.int .i64 k, .bool is, .int .i64 n, .string (mkS t), .slice none 0 0, .slice none 0 0]) ∧ QsQ g s st1 W w') : MaQ g s (.mk k is n t [] [], st1) W e w' := by
  obtain ⟨rfl, hq⟩ := h
  exact ⟨k, is, n, mkS t, none, 0, 0, none, 0, 0, rfl, rep_leaf _ _ _ _ _ _, hq⟩
theorem value_at (g : Nat) (s : ByteArray) (mo : Int) (F : Nat) (hs : s.size ≤ 1000) (hmo : mo ≤ 16) (HV : ∀ f, f < F → VQ g s mo f) : VQ g s mo (F + 1) := by
  intro st op W h hle ho0 ho1 hf hfu
  obtain ⟨a, b, p⟩ := st
  have hsl := Lib.size_eq s
  have HP : Hid (∀ W, W.heap[g]? = some (obQ s ⟨a, b, p⟩) → Calls Tryz.prog 25 #[.pointer (some ⟨g, 0, none⟩)] W fun e w' => e = ret2 (tkV (tokA s.data.toList a).1) (pkE s.data.toList a) ∧ Below W.heap.size W w') := fun W hW => peek_c s ⟨a, b, p⟩ g W hW hs hle
  have HF : ∀ e : Int, Hid (∀ W, W.heap[g]? = some (obQ s ⟨a, 0, p⟩) → Calls Tryz.prog 14 #[.pointer (some ⟨g, 0, none⟩), .int .i64 e] W fun r w' => r = .returned (.tuple #[]) ∧ QsQ g s (failQ s.data.toList e ⟨a, 0, p⟩) W w') := fun e W hW => fail_c s ⟨a, 0, p⟩ g e W hW hs hle
  have hbd := fun (e : pkE s.data.toList a = 0) => pkE_tok (l := s.data.toList) (a := a) (by rw [← hsl]; exact hle) e
  rw [valQ]
  unfold ret2 at HP
  dsimp only at hfu hle ⊢
  obtain ⟨x, hx⟩ : ∃ x, (tokA s.data.toList a).1 = x := ⟨_, rfl⟩
  obtain ⟨tk, ta, tb, tt, tn⟩ := x
  rw [hx] at HP hbd ⊢
  unfold tkV tokV at HP
  dsimp only at HP hbd ⊢
  generalize pkE s.data.toList a = pe at HP hbd ⊢
  by_cases hb : b = 0
  · subst hb
    rw [if_neg (by simp)]
    by_cases hp : pe = 0
    · have hbd := hbd hp
      rw [← hsl] at hbd
      have hfu := hfu rfl
      rw [if_neg (by simpa using hp)]
      by_cases hk : tk = 1 ∨ tk = 3
      · by_cases ho : mo ≤ op
        · rw [if_pos ⟨hk, by omega⟩]
          rcases hk with hk | hk
          · exact (vq_d1 s a p g tk ta tb 0 tt tn pe op mo W h rfl hp hk ho _ (HF 4) HP).mono fun e w' hh => leafQ (t := []) hh
          · exact (vq_d3 s a p g tk ta tb 0 tt tn pe op mo W h rfl hp hk ho _ (HF 4) HP).mono fun e w' hh => leafQ (t := []) hh
        · rw [if_neg (by omega), if_pos hk]
          have hr : mo - op - 1 = mo - (op + 1) := by omega
          rw [hr]
          rcases hk with hk | hk
          · subst hk
            exact vq_m1 s a p g 1 ta tb 0 tt tn pe op mo W h rfl hp rfl (by omega) _ _ (fun V hV => many_t s tb p g F op mo V hV hs hbd.2 (by omega) ho0 (by omega) hmo (Lib.hid HV)) HP
          · subst hk
            exact vq_m3 s a p g 3 ta tb 0 tt tn pe op mo W h rfl hp rfl (by omega) _ _ (fun V hV => many_f s tb p g F op mo V hV hs hbd.2 (by omega) ho0 (by omega) hmo (Lib.hid HV)) HP
      · rw [if_neg (fun g => hk g.1), if_neg hk]
        by_cases h7 : tk = 7
        · rw [if_pos h7]
          exact (vq_7 s a p g tk ta tb 0 tt tn pe op mo W h rfl hp h7 HP).mono fun e w' hh => leafQ hh
        · rw [if_neg h7]
          by_cases h8 : tk = 8
          · rw [if_pos h8]
            exact (vq_8 s a p g tk ta tb 0 tt tn pe op mo W h rfl hp h8 HP).mono fun e w' hh => leafQ (t := []) hh
          · rw [if_neg h8]
            by_cases h9 : tk = 9
            · rw [if_pos (.inl h9)]
              have : (tk == 9) = true := by simpa using h9
              rw [this]
              exact (vq_9 s a p g tk ta tb 0 tt tn pe op mo W h rfl hp h9 HP).mono fun e w' hh => leafQ (t := []) hh
            · by_cases h10 : tk = 10
              · rw [if_pos (.inr h10)]
                have : (tk == 9) = false := by simpa using h9
                rw [this]
                exact (vq_10 s a p g tk ta tb 0 tt tn pe op mo W h rfl hp h10 HP).mono fun e w' hh => leafQ (t := []) hh
              · rw [if_neg (by omega)]
                by_cases h11 : tk = 11
                · rw [if_pos h11]
                  exact (vq_11 s a p g tk ta tb 0 tt tn pe op mo W h rfl hp h11 HP).mono fun e w' hh => leafQ (t := []) hh
                · rw [if_neg h11]
                  exact (vq_o s a p g tk ta tb 0 tt tn pe op mo W h rfl hp (by omega) _ (HF 3) HP).mono fun e w' hh => leafQ (t := []) hh
    · rw [if_pos (by simpa using hp)]
      exact (vq_p s a p g tk ta tb 0 tt tn pe op mo W h rfl hp _ (HF pe) HP).mono fun e w' hh => leafQ (t := []) hh
  · rw [if_pos (by simpa using hb)]
    exact (vq_b s a p g tk ta tb b tt tn pe op mo W h hb HP).mono fun e w' hh => leafQ (t := []) hh
theorem vq_all (g : Nat) (s : ByteArray) (mo : Int) (hs : s.size ≤ 1000) (hmo : mo ≤ 16) : ∀ F f, f < F → VQ g s mo f
  | 0, f, hf => absurd hf (Nat.not_lt_zero _)
  | F + 1, f, hf => by
    by_cases h : f < F
    · exact vq_all g s mo hs hmo F f h
    · obtain rfl : f = F := by omega
      cases f with
      | zero => intro st op W _ _ _ _ h1 _; omega
      | succ f => exact value_at g s mo f hs hmo (fun f' hf' => vq_all g s mo hs hmo (f + 1) f' (by omega))
theorem RValue_c (s : ByteArray) (mo : Int) (g : Nat) (w : World) (h : w.heap[g]? = some (obQ s ⟨0, 0, 0⟩)) (hs : s.size ≤ 1000) (hmo : mo ≤ 16) : Calls Tryz.prog 12 #[.pointer (some ⟨g, 0, none⟩), .int .i64 0, .int .i64 mo] w (MaQ g s (valQ s.data.toList (2 * s.data.toList.length + 1) mo ⟨0, 0, 0⟩) w) := by
  have hsl := Lib.size_eq s
  have := vq_all g s mo hs hmo (2 * s.data.toList.length + 2) (2 * s.data.toList.length + 1) (by omega) ⟨0, 0, 0⟩ 0 w h (Nat.zero_le _) (by omega) (by omega) (by omega) (fun _ => by show 2 * (s.size - 0) + 1 ≤ _; omega)
  rw [show mo - 0 = mo by omega] at this
  exact this
end Go.Proofs.YtpgllcdcpdeicaaGreatDoor.Jv
namespace Go.Proofs.YtpgllcdcpdeicaaGreatDoor.Jv
open Jt
open Go.RowKit Go.ChangeMaps Go.MapKept Go.WideMaps
set_option linter.unusedSimpArgs false
set_option linter.unusedVariables false

theorem newQ (w : World) (s : ByteArray) : ∃ W, W = w.alloc (.cells #[.string s, .int .i64 0, .int .i64 0, .int .i64 0] 51) ∧ W.heap[w.heap.size]? = some (obQ s ⟨0, 0, 0⟩) ∧ Below w.heap.size w W := ⟨_, rfl, heap_alloc_new w _, (Below.refl _ _).alloc (Nat.le_refl _) _⟩
set_option maxRecDepth 100000 in
set_option maxHeartbeats 8000000 in
theorem rp_hi (s : ByteArray) (d : Int) (w : World) (hs : s.size ≤ 1000) (hd : 16 < d) : Calls Tryz.prog 5 #[.string s, .int .i64 d] w (PaQ (docP s.data.toList d) w) := by
  have hsl := Lib.size_eq s
  obtain ⟨W0, hW0, hk0, hb0⟩ := newW w (.int .i64 0) (.bool false) (.int .i64 0) (.string ⟨#[]⟩) (.slice none 0 0) (.slice none 0 0)
  obtain ⟨W1, hW1, hk1, hb1⟩ := newQ W0 s
  have hlt0 : w.heap.size < W0.heap.size := (Array.getElem?_eq_some_iff.1 hk0).1
  have hlt1 : W0.heap.size < W1.heap.size := (Array.getElem?_eq_some_iff.1 hk1).1
  have HR1 : Hid (W1.heap[w.heap.size]? = some zW) := (hb1.block _ hlt0).trans hk0
  have HG1 : Hid (Up w W1) := Up.be (Grw.of_below hb0 (fun k h _ => h)) hb1
  have HW0 := Lib.hid hW0
  have HW1 := Lib.hid hW1
  have HWH := Lib.hid (RValue_c s 16 W0.heap.size W1 hk1 hs (by omega))
  have HDP : Hid (docP s.data.toList d = if (endQ s.data.toList (valQ s.data.toList (2 * s.data.toList.length + 1) 16 ⟨0, 0, 0⟩).2).bad ≠ 0 then (zV, (endQ s.data.toList (valQ s.data.toList (2 * s.data.toList.length + 1) 16 ⟨0, 0, 0⟩).2).pos, (endQ s.data.toList (valQ s.data.toList (2 * s.data.toList.length + 1) 16 ⟨0, 0, 0⟩).2).bad)
      else ((valQ s.data.toList (2 * s.data.toList.length + 1) 16 ⟨0, 0, 0⟩).1, s.data.toList.length, 0)) := by
    show _ = _
    unfold docP
    rw [show min d 16 = 16 by omega]
  have hvf := ((vl_fw s.data.toList (2 * s.data.toList.length + 1)).1 16 ⟨0, 0, 0⟩ (Nat.zero_le _)).1.2.1
  generalize valQ s.data.toList (2 * s.data.toList.length + 1) 16 ⟨0, 0, 0⟩ = R at HWH HDP hvf
  obtain ⟨X, a, b, p⟩ := R
  unfold MaQ at HWH
  unfold endQ at HDP
  dsimp only at HWH HDP hvf
  have ha : a ≤ s.size := by rw [hsl]; exact hvf
  have HN := Lib.hid (fun W => nextR_c s a W hs ha)
  unfold ret2 at HN
  obtain ⟨x, hx⟩ : ∃ x, tokA s.data.toList a = x := ⟨_, rfl⟩
  obtain ⟨⟨tk, ta, tb, tx, tn⟩, te⟩ := x
  rw [hx] at HN HDP
  unfold tkV tokV at HN
  dsimp only at HN HDP
  have HSL := Lib.hid hsl
  have hne : W0.heap.size ≠ w.heap.size := by omega
  clear hW0 hk0 hb0 hW1 hk1 hb1 hvf hx hsl
  go_enter Tryz.func5, Tryz.ntmps5
  go_upto_region 1 with (fail)
  rw [← HW0.out]
  go_upto_region 4 with (fail)
  rw [← HW1.out]
  go_upto_region 5 with (go_at_call 12; (with_reducible refine HWH.out.mono ?_); rintro e w2 ⟨xk, xb, xn, xt, xo, xl, xq, yo, yl, yq, rfl, hr2, hq2⟩; have HP2 := Lib.hid hr2; have HQ2 := Lib.hid hq2; clear hr2 hq2)
  have hz2 : W1.heap.size ≤ w2.heap.size := HQ2.out.2.size
  have HR2 : Hid (w2.heap[w.heap.size]? = some zW) := (HQ2.out.2.block _ (Array.getElem?_eq_some_iff.1 HR1.out).1 (fun e => hne (by injection e with e; omega))).trans HR1.out
  have HG2 : Hid (Up w w2) := Up.one HG1.out (Grw.of_gb HQ2.out.2 (fun j e => by injection e with e; exact e.symm)) (by omega)
  obtain ⟨W3, hW3, hk3, hb3⟩ := one_r w2 xk xb xn xt xo xl xq yo yl yq
  have HW3 := Lib.hid hW3
  have HB3 := Lib.hid hb3
  have HX3 := Lib.hid hk3
  have hz3 : w2.heap.size < W3.heap.size := (Array.getElem?_eq_some_iff.1 hk3).1
  clear hW3 hk3 hb3 HWH
  rw [← HW3.out]
  have HQ3 : Hid (W3.heap[W0.heap.size]? = some (obQ s ⟨a, b, p⟩)) := (HB3.out.block _ (Array.getElem?_eq_some_iff.1 HQ2.out.1).1).trans HQ2.out.1
  obtain ⟨c0, c1, c2, c3⟩ := cells4q HQ3.out
  have HNW := Lib.hid (HN.out W3)
  go_upto_region 6 with (go_at_call 13; (with_reducible refine HNW.out.mono ?_); rintro e w4 ⟨rfl, hb4⟩; have HB4 := Lib.hid hb4; clear hb4)
  obtain ⟨W5, hW5, hk5, hb5⟩ := newK w4 tk ta tb (mkS tx) tn
  have HW5 := Lib.hid hW5
  have HB5 : Hid (Below w2.heap.size w2 W5) := btr HB3.out (btr HB4.out hb5)
  clear hW5 hk5 hb5 HNW c0 c1 c2 c3
  rw [← HW5.out]
  have HQ5 : Hid (W5.heap[W0.heap.size]? = some (obQ s ⟨a, b, p⟩)) := (HB5.out.block _ (Array.getElem?_eq_some_iff.1 HQ2.out.1).1).trans HQ2.out.1
  have HR5 : Hid (W5.heap[w.heap.size]? = some zW) := (HB5.out.block _ (Array.getElem?_eq_some_iff.1 HR2.out).1).trans HR2.out
  have HG5 : Hid (Up w W5) := Up.be HG2.out HB5.out
  have HP5 : Hid (Rep (fun k => W1.heap.size ≤ k) W5 X (c6 xk xb xn xt xo xl xq yo yl yq)) := Rep.keep (Kep.of HB5.out) _ HP2.out
  have HX5 : Hid (W5.heap[w2.heap.size]? = some (obR xk xb xn xt xo xl xq yo yl yq)) := by
    have hh := btr HB4.out (Below.refl w4.heap.size w4)
    have h2 := (HB4.out.block _ hz3).trans HX3.out
    rw [HW5.out]
    exact (((Below.refl w4.heap.size w4).alloc (Nat.le_refl _) _).block _ (Array.getElem?_eq_some_iff.1 h2).1).trans h2
  clear HP2 HQ2 HR2 HQ3 HX3 HB3 HB4 HR1 HG1 HN
  obtain ⟨c0, c1, c2, c3⟩ := cells4q HQ5.out
  by_cases hb : b = 0
  · subst hb
    by_cases h6 : te = 6
    · have HX : Hid (docP s.data.toList d = (X, s.data.toList.length, 0)) := by
        show _ = _
        rw [HDP.out, if_neg (show ¬ ((0 : Int) = 0 ∧ te ≠ 6) from fun g => g.2 h6), if_neg (by simp)]
      have e6 : (te != 6) = false := by simp [h6]
      have hx2 : w2.heap.size ≠ w.heap.size := by omega
      obtain ⟨v0, v1, v2, v3, v4, v5⟩ := cells6 HX5.out
      obtain ⟨u0, u1, u2, u3, u4, u5⟩ := cells6 HR5.out
      have z0 := frz HR5.out 0
      have z1 := frz HR5.out 1
      have z2 := frz HR5.out 2
      have z3 := frz HR5.out 3
      have z4 := frz HR5.out 4
      have z5 := frz HR5.out 5
      have HH := Lib.hid (set6 HR5.out (.int .i64 xk) (.bool xb) (.int .i64 xn) (.string xt) (.slice xo xl xq) (.slice yo yl yq))
      have HZ := Lib.hid (gr_set6 W5 w.heap.size (.int .i64 xk) (.bool xb) (.int .i64 xn) (.string xt) (.slice xo xl xq) (.slice yo yl yq))
      clear h6
      go_wp2_with fail
      obtain ⟨d0, d1, d2, d3, d4, d5⟩ := cells6 HH.out
      clear u0 u1 u2 u3 u4 u5 z0 z1 z2 z3 z4 z5
      (with_reducible refine bodyPost_ret (v := .tuple #[.agg #[.int .i64 xk, .bool xb, .int .i64 xn, .string xt, .slice xo xl xq, .slice yo yl yq], .int .i64 (s.size : Int), .int .i64 0]) (by simp [results, Tryz.results5, go_sem, d0, d1, d2, d3, d4, d5]) rfl ?_)
      have hgz := Up.one HG5.out HZ.out (Nat.le_refl _)
      refine ⟨xk, xb, xn, xt, xo, xl, xq, yo, yl, yq, ?_, ?_, hgz.below⟩
      · rw [HX.out, HSL.out]
      · rw [HX.out]
        exact Rep.mono (fun k hk _ => by omega) _ (Rep.keep ⟨HZ.out.size, fun k hk hl => HZ.out.block hl (by omega)⟩ _ HP5.out)
    · have e6 : (te != 6) = true := by simpa using h6
      by_cases h0 : te = 0
      · have hpf : (3 : Int) ≠ 0 := by decide
        have e7 : (te == 0) = true := by simpa using h0
        have HX : Hid (docP s.data.toList d = (zV, endP blkB s.data.toList a, 3)) := by
          show _ = _
          rw [HDP.out]
          unfold failQ
          rw [if_pos (show (0 : Int) = 0 ∧ te ≠ 6 from ⟨rfl, h6⟩), if_pos rfl, if_pos h0]
          dsimp only
          rw [if_pos hpf]
        have HFX := Lib.hid (fail_c s ⟨a, 0, p⟩ W0.heap.size 3 W5 HQ5.out hs ha)
        have e9 : ((3 : Int) != 0) = true := by decide
        clear c0 c1 c2 c3
        obtain ⟨c0, c1, c2, c3⟩ := cells4q HQ5.out
        go_upto_region 10 with (go_at_call 14; (with_reducible refine HFX.out.mono ?_); rintro e w6 ⟨rfl, hq6⟩; have HQ6 := Lib.hid hq6; clear hq6)
        have HQ7 : Hid (w6.heap[W0.heap.size]? = some (obQ s ⟨a, 3, endP blkB s.data.toList a⟩)) := by have := HQ6.out.1; unfold failQ at this; rw [if_pos rfl] at this; exact Lib.hid this
        have HR7 : Hid (w6.heap[w.heap.size]? = some zW) := (HQ6.out.2.block _ (Array.getElem?_eq_some_iff.1 HR5.out).1 (fun e => hne (by injection e with e; omega))).trans HR5.out
        have HG7 : Hid (Up w w6) := Up.one HG5.out (Grw.of_gb HQ6.out.2 (fun j e => by injection e with e; exact e.symm)) (by omega)
        clear HQ6 c0 c1 c2 c3
        obtain ⟨c0, c1, c2, c3⟩ := cells4q HQ7.out
        go_upto_region 11 with (fail)
        obtain ⟨u0, u1, u2, u3, u4, u5⟩ := cells6 HR7.out
        have z0 := frz HR7.out 0
        have z1 := frz HR7.out 1
        have z2 := frz HR7.out 2
        have z3 := frz HR7.out 3
        have z4 := frz HR7.out 4
        have z5 := frz HR7.out 5
        have HH := Lib.hid (set6 HR7.out (.int .i64 0) (.bool false) (.int .i64 0) (.string ⟨#[]⟩) (.slice none 0 0) (.slice none 0 0))
        have HZ := Lib.hid (gr_set6 w6 w.heap.size (.int .i64 0) (.bool false) (.int .i64 0) (.string ⟨#[]⟩) (.slice none 0 0) (.slice none 0 0))
        go_region
        all_goals
          go_wp2_with fail
          obtain ⟨d0, d1, d2, d3, d4, d5⟩ := cells6 HH.out
          clear u0 u1 u2 u3 u4 u5 z0 z1 z2 z3 z4 z5
          (with_reducible refine bodyPost_ret (v := .tuple #[.agg #[.int .i64 0, .bool false, .int .i64 0, .string ⟨#[]⟩, .slice none 0 0, .slice none 0 0], .int .i64 (endP blkB s.data.toList a : Int), .int .i64 3]) (by simp [results, Tryz.results5, go_sem, d0, d1, d2, d3, d4, d5]) rfl ?_)
          exact ⟨0, false, 0, ⟨#[]⟩, none, 0, 0, none, 0, 0, by rw [HX.out], by rw [HX.out]; exact rep_leaf _ _ _ _ _ [], (Below.drew ((Up.one HG7.out HZ.out (Nat.le_refl _)).below))⟩
      · have hpf : te ≠ 0 := h0
        have e7 : (te == 0) = false := by simpa using h0
        have HX : Hid (docP s.data.toList d = (zV, endP blkB s.data.toList a, te)) := by
          show _ = _
          rw [HDP.out]
          unfold failQ
          rw [if_pos (show (0 : Int) = 0 ∧ te ≠ 6 from ⟨rfl, h6⟩), if_pos rfl, if_neg h0]
          dsimp only
          rw [if_pos hpf]
        have HFX := Lib.hid (fail_c s ⟨a, 0, p⟩ W0.heap.size te W5 HQ5.out hs ha)
        have e9 : ((te : Int) != 0) = true := bne_iff_ne.2 hpf
        clear c0 c1 c2 c3
        obtain ⟨c0, c1, c2, c3⟩ := cells4q HQ5.out
        go_upto_region 10 with (go_at_call 14; (with_reducible refine HFX.out.mono ?_); rintro e w6 ⟨rfl, hq6⟩; have HQ6 := Lib.hid hq6; clear hq6)
        have HQ7 : Hid (w6.heap[W0.heap.size]? = some (obQ s ⟨a, te, endP blkB s.data.toList a⟩)) := by have := HQ6.out.1; unfold failQ at this; rw [if_pos rfl] at this; exact Lib.hid this
        have HR7 : Hid (w6.heap[w.heap.size]? = some zW) := (HQ6.out.2.block _ (Array.getElem?_eq_some_iff.1 HR5.out).1 (fun e => hne (by injection e with e; omega))).trans HR5.out
        have HG7 : Hid (Up w w6) := Up.one HG5.out (Grw.of_gb HQ6.out.2 (fun j e => by injection e with e; exact e.symm)) (by omega)
        clear HQ6 c0 c1 c2 c3
        obtain ⟨c0, c1, c2, c3⟩ := cells4q HQ7.out
        go_upto_region 11 with (fail)
        obtain ⟨u0, u1, u2, u3, u4, u5⟩ := cells6 HR7.out
        have z0 := frz HR7.out 0
        have z1 := frz HR7.out 1
        have z2 := frz HR7.out 2
        have z3 := frz HR7.out 3
        have z4 := frz HR7.out 4
        have z5 := frz HR7.out 5
        have HH := Lib.hid (set6 HR7.out (.int .i64 0) (.bool false) (.int .i64 0) (.string ⟨#[]⟩) (.slice none 0 0) (.slice none 0 0))
        have HZ := Lib.hid (gr_set6 w6 w.heap.size (.int .i64 0) (.bool false) (.int .i64 0) (.string ⟨#[]⟩) (.slice none 0 0) (.slice none 0 0))
        go_region
        all_goals
          go_wp2_with fail
          obtain ⟨d0, d1, d2, d3, d4, d5⟩ := cells6 HH.out
          clear u0 u1 u2 u3 u4 u5 z0 z1 z2 z3 z4 z5
          (with_reducible refine bodyPost_ret (v := .tuple #[.agg #[.int .i64 0, .bool false, .int .i64 0, .string ⟨#[]⟩, .slice none 0 0, .slice none 0 0], .int .i64 (endP blkB s.data.toList a : Int), .int .i64 te]) (by simp [results, Tryz.results5, go_sem, d0, d1, d2, d3, d4, d5]) rfl ?_)
          exact ⟨0, false, 0, ⟨#[]⟩, none, 0, 0, none, 0, 0, by rw [HX.out], by rw [HX.out]; exact rep_leaf _ _ _ _ _ [], (Below.drew ((Up.one HG7.out HZ.out (Nat.le_refl _)).below))⟩
  · have e1 : (b == 0) = false := by simpa using hb
    have e9 : (b != 0) = true := by rw [bne, e1]; rfl
    have HX : Hid (docP s.data.toList d = (zV, p, b)) := by
      show _ = _
      rw [HDP.out, if_neg (show ¬ (b = 0 ∧ te ≠ 6) from fun g => hb g.1)]
      dsimp only
      rw [if_pos hb]
    clear c0 c1 c2 c3 hb
    obtain ⟨c0, c1, c2, c3⟩ := cells4q HQ5.out
    go_upto_region 11 with (fail)
    obtain ⟨u0, u1, u2, u3, u4, u5⟩ := cells6 HR5.out
    have z0 := frz HR5.out 0
    have z1 := frz HR5.out 1
    have z2 := frz HR5.out 2
    have z3 := frz HR5.out 3
    have z4 := frz HR5.out 4
    have z5 := frz HR5.out 5
    have HH := Lib.hid (set6 HR5.out (.int .i64 0) (.bool false) (.int .i64 0) (.string ⟨#[]⟩) (.slice none 0 0) (.slice none 0 0))
    have HZ := Lib.hid (gr_set6 W5 w.heap.size (.int .i64 0) (.bool false) (.int .i64 0) (.string ⟨#[]⟩) (.slice none 0 0) (.slice none 0 0))
    go_region
    all_goals
      go_wp2_with fail
      obtain ⟨d0, d1, d2, d3, d4, d5⟩ := cells6 HH.out
      clear u0 u1 u2 u3 u4 u5 z0 z1 z2 z3 z4 z5
      (with_reducible refine bodyPost_ret (v := .tuple #[.agg #[.int .i64 0, .bool false, .int .i64 0, .string ⟨#[]⟩, .slice none 0 0, .slice none 0 0], .int .i64 (p : Int), .int .i64 b]) (by simp [results, Tryz.results5, go_sem, d0, d1, d2, d3, d4, d5]) rfl ?_)
      exact ⟨0, false, 0, ⟨#[]⟩, none, 0, 0, none, 0, 0, by rw [HX.out], by rw [HX.out]; exact rep_leaf _ _ _ _ _ [], (Below.drew ((Up.one HG5.out HZ.out (Nat.le_refl _)).below))⟩
set_option maxRecDepth 100000 in
set_option maxHeartbeats 8000000 in
theorem rp_lo (s : ByteArray) (d : Int) (w : World) (hs : s.size ≤ 1000) (hd : ¬ 16 < d) : Calls Tryz.prog 5 #[.string s, .int .i64 d] w (PaQ (docP s.data.toList d) w) := by
  have hsl := Lib.size_eq s
  obtain ⟨W0, hW0, hk0, hb0⟩ := newW w (.int .i64 0) (.bool false) (.int .i64 0) (.string ⟨#[]⟩) (.slice none 0 0) (.slice none 0 0)
  obtain ⟨W1, hW1, hk1, hb1⟩ := newQ W0 s
  have hlt0 : w.heap.size < W0.heap.size := (Array.getElem?_eq_some_iff.1 hk0).1
  have hlt1 : W0.heap.size < W1.heap.size := (Array.getElem?_eq_some_iff.1 hk1).1
  have HR1 : Hid (W1.heap[w.heap.size]? = some zW) := (hb1.block _ hlt0).trans hk0
  have HG1 : Hid (Up w W1) := Up.be (Grw.of_below hb0 (fun k h _ => h)) hb1
  have HW0 := Lib.hid hW0
  have HW1 := Lib.hid hW1
  have HWH := Lib.hid (RValue_c s d W0.heap.size W1 hk1 hs (by omega))
  have HDP : Hid (docP s.data.toList d = if (endQ s.data.toList (valQ s.data.toList (2 * s.data.toList.length + 1) d ⟨0, 0, 0⟩).2).bad ≠ 0 then (zV, (endQ s.data.toList (valQ s.data.toList (2 * s.data.toList.length + 1) d ⟨0, 0, 0⟩).2).pos, (endQ s.data.toList (valQ s.data.toList (2 * s.data.toList.length + 1) d ⟨0, 0, 0⟩).2).bad)
      else ((valQ s.data.toList (2 * s.data.toList.length + 1) d ⟨0, 0, 0⟩).1, s.data.toList.length, 0)) := by
    show _ = _
    unfold docP
    rw [show min d 16 = d by omega]
  have hvf := ((vl_fw s.data.toList (2 * s.data.toList.length + 1)).1 d ⟨0, 0, 0⟩ (Nat.zero_le _)).1.2.1
  generalize valQ s.data.toList (2 * s.data.toList.length + 1) d ⟨0, 0, 0⟩ = R at HWH HDP hvf
  obtain ⟨X, a, b, p⟩ := R
  unfold MaQ at HWH
  unfold endQ at HDP
  dsimp only at HWH HDP hvf
  have ha : a ≤ s.size := by rw [hsl]; exact hvf
  have HN := Lib.hid (fun W => nextR_c s a W hs ha)
  unfold ret2 at HN
  obtain ⟨x, hx⟩ : ∃ x, tokA s.data.toList a = x := ⟨_, rfl⟩
  obtain ⟨⟨tk, ta, tb, tx, tn⟩, te⟩ := x
  rw [hx] at HN HDP
  unfold tkV tokV at HN
  dsimp only at HN HDP
  have HSL := Lib.hid hsl
  have hne : W0.heap.size ≠ w.heap.size := by omega
  clear hW0 hk0 hb0 hW1 hk1 hb1 hvf hx hsl
  go_enter Tryz.func5, Tryz.ntmps5
  go_upto_region 1 with (fail)
  rw [← HW0.out]
  go_upto_region 4 with (fail)
  rw [← HW1.out]
  go_upto_region 5 with (go_at_call 12; (with_reducible refine HWH.out.mono ?_); rintro e w2 ⟨xk, xb, xn, xt, xo, xl, xq, yo, yl, yq, rfl, hr2, hq2⟩; have HP2 := Lib.hid hr2; have HQ2 := Lib.hid hq2; clear hr2 hq2)
  have hz2 : W1.heap.size ≤ w2.heap.size := HQ2.out.2.size
  have HR2 : Hid (w2.heap[w.heap.size]? = some zW) := (HQ2.out.2.block _ (Array.getElem?_eq_some_iff.1 HR1.out).1 (fun e => hne (by injection e with e; omega))).trans HR1.out
  have HG2 : Hid (Up w w2) := Up.one HG1.out (Grw.of_gb HQ2.out.2 (fun j e => by injection e with e; exact e.symm)) (by omega)
  obtain ⟨W3, hW3, hk3, hb3⟩ := one_r w2 xk xb xn xt xo xl xq yo yl yq
  have HW3 := Lib.hid hW3
  have HB3 := Lib.hid hb3
  have HX3 := Lib.hid hk3
  have hz3 : w2.heap.size < W3.heap.size := (Array.getElem?_eq_some_iff.1 hk3).1
  clear hW3 hk3 hb3 HWH
  rw [← HW3.out]
  have HQ3 : Hid (W3.heap[W0.heap.size]? = some (obQ s ⟨a, b, p⟩)) := (HB3.out.block _ (Array.getElem?_eq_some_iff.1 HQ2.out.1).1).trans HQ2.out.1
  obtain ⟨c0, c1, c2, c3⟩ := cells4q HQ3.out
  have HNW := Lib.hid (HN.out W3)
  go_upto_region 6 with (go_at_call 13; (with_reducible refine HNW.out.mono ?_); rintro e w4 ⟨rfl, hb4⟩; have HB4 := Lib.hid hb4; clear hb4)
  obtain ⟨W5, hW5, hk5, hb5⟩ := newK w4 tk ta tb (mkS tx) tn
  have HW5 := Lib.hid hW5
  have HB5 : Hid (Below w2.heap.size w2 W5) := btr HB3.out (btr HB4.out hb5)
  clear hW5 hk5 hb5 HNW c0 c1 c2 c3
  rw [← HW5.out]
  have HQ5 : Hid (W5.heap[W0.heap.size]? = some (obQ s ⟨a, b, p⟩)) := (HB5.out.block _ (Array.getElem?_eq_some_iff.1 HQ2.out.1).1).trans HQ2.out.1
  have HR5 : Hid (W5.heap[w.heap.size]? = some zW) := (HB5.out.block _ (Array.getElem?_eq_some_iff.1 HR2.out).1).trans HR2.out
  have HG5 : Hid (Up w W5) := Up.be HG2.out HB5.out
  have HP5 : Hid (Rep (fun k => W1.heap.size ≤ k) W5 X (c6 xk xb xn xt xo xl xq yo yl yq)) := Rep.keep (Kep.of HB5.out) _ HP2.out
  have HX5 : Hid (W5.heap[w2.heap.size]? = some (obR xk xb xn xt xo xl xq yo yl yq)) := by
    have hh := btr HB4.out (Below.refl w4.heap.size w4)
    have h2 := (HB4.out.block _ hz3).trans HX3.out
    rw [HW5.out]
    exact (((Below.refl w4.heap.size w4).alloc (Nat.le_refl _) _).block _ (Array.getElem?_eq_some_iff.1 h2).1).trans h2
  clear HP2 HQ2 HR2 HQ3 HX3 HB3 HB4 HR1 HG1 HN
  obtain ⟨c0, c1, c2, c3⟩ := cells4q HQ5.out
  by_cases hb : b = 0
  · subst hb
    by_cases h6 : te = 6
    · have HX : Hid (docP s.data.toList d = (X, s.data.toList.length, 0)) := by
        show _ = _
        rw [HDP.out, if_neg (show ¬ ((0 : Int) = 0 ∧ te ≠ 6) from fun g => g.2 h6), if_neg (by simp)]
      have e6 : (te != 6) = false := by simp [h6]
      have hx2 : w2.heap.size ≠ w.heap.size := by omega
      obtain ⟨v0, v1, v2, v3, v4, v5⟩ := cells6 HX5.out
      obtain ⟨u0, u1, u2, u3, u4, u5⟩ := cells6 HR5.out
      have z0 := frz HR5.out 0
      have z1 := frz HR5.out 1
      have z2 := frz HR5.out 2
      have z3 := frz HR5.out 3
      have z4 := frz HR5.out 4
      have z5 := frz HR5.out 5
      have HH := Lib.hid (set6 HR5.out (.int .i64 xk) (.bool xb) (.int .i64 xn) (.string xt) (.slice xo xl xq) (.slice yo yl yq))
      have HZ := Lib.hid (gr_set6 W5 w.heap.size (.int .i64 xk) (.bool xb) (.int .i64 xn) (.string xt) (.slice xo xl xq) (.slice yo yl yq))
      clear h6
      go_wp2_with fail
      obtain ⟨d0, d1, d2, d3, d4, d5⟩ := cells6 HH.out
      clear u0 u1 u2 u3 u4 u5 z0 z1 z2 z3 z4 z5
      (with_reducible refine bodyPost_ret (v := .tuple #[.agg #[.int .i64 xk, .bool xb, .int .i64 xn, .string xt, .slice xo xl xq, .slice yo yl yq], .int .i64 (s.size : Int), .int .i64 0]) (by simp [results, Tryz.results5, go_sem, d0, d1, d2, d3, d4, d5]) rfl ?_)
      have hgz := Up.one HG5.out HZ.out (Nat.le_refl _)
      refine ⟨xk, xb, xn, xt, xo, xl, xq, yo, yl, yq, ?_, ?_, hgz.below⟩
      · rw [HX.out, HSL.out]
      · rw [HX.out]
        exact Rep.mono (fun k hk _ => by omega) _ (Rep.keep ⟨HZ.out.size, fun k hk hl => HZ.out.block hl (by omega)⟩ _ HP5.out)
    · have e6 : (te != 6) = true := by simpa using h6
      by_cases h0 : te = 0
      · have hpf : (3 : Int) ≠ 0 := by decide
        have e7 : (te == 0) = true := by simpa using h0
        have HX : Hid (docP s.data.toList d = (zV, endP blkB s.data.toList a, 3)) := by
          show _ = _
          rw [HDP.out]
          unfold failQ
          rw [if_pos (show (0 : Int) = 0 ∧ te ≠ 6 from ⟨rfl, h6⟩), if_pos rfl, if_pos h0]
          dsimp only
          rw [if_pos hpf]
        have HFX := Lib.hid (fail_c s ⟨a, 0, p⟩ W0.heap.size 3 W5 HQ5.out hs ha)
        have e9 : ((3 : Int) != 0) = true := by decide
        clear c0 c1 c2 c3
        obtain ⟨c0, c1, c2, c3⟩ := cells4q HQ5.out
        go_upto_region 10 with (go_at_call 14; (with_reducible refine HFX.out.mono ?_); rintro e w6 ⟨rfl, hq6⟩; have HQ6 := Lib.hid hq6; clear hq6)
        have HQ7 : Hid (w6.heap[W0.heap.size]? = some (obQ s ⟨a, 3, endP blkB s.data.toList a⟩)) := by have := HQ6.out.1; unfold failQ at this; rw [if_pos rfl] at this; exact Lib.hid this
        have HR7 : Hid (w6.heap[w.heap.size]? = some zW) := (HQ6.out.2.block _ (Array.getElem?_eq_some_iff.1 HR5.out).1 (fun e => hne (by injection e with e; omega))).trans HR5.out
        have HG7 : Hid (Up w w6) := Up.one HG5.out (Grw.of_gb HQ6.out.2 (fun j e => by injection e with e; exact e.symm)) (by omega)
        clear HQ6 c0 c1 c2 c3
        obtain ⟨c0, c1, c2, c3⟩ := cells4q HQ7.out
        go_upto_region 11 with (fail)
        obtain ⟨u0, u1, u2, u3, u4, u5⟩ := cells6 HR7.out
        have z0 := frz HR7.out 0
        have z1 := frz HR7.out 1
        have z2 := frz HR7.out 2
        have z3 := frz HR7.out 3
        have z4 := frz HR7.out 4
        have z5 := frz HR7.out 5
        have HH := Lib.hid (set6 HR7.out (.int .i64 0) (.bool false) (.int .i64 0) (.string ⟨#[]⟩) (.slice none 0 0) (.slice none 0 0))
        have HZ := Lib.hid (gr_set6 w6 w.heap.size (.int .i64 0) (.bool false) (.int .i64 0) (.string ⟨#[]⟩) (.slice none 0 0) (.slice none 0 0))
        go_region
        all_goals
          go_wp2_with fail
          obtain ⟨d0, d1, d2, d3, d4, d5⟩ := cells6 HH.out
          clear u0 u1 u2 u3 u4 u5 z0 z1 z2 z3 z4 z5
          (with_reducible refine bodyPost_ret (v := .tuple #[.agg #[.int .i64 0, .bool false, .int .i64 0, .string ⟨#[]⟩, .slice none 0 0, .slice none 0 0], .int .i64 (endP blkB s.data.toList a : Int), .int .i64 3]) (by simp [results, Tryz.results5, go_sem, d0, d1, d2, d3, d4, d5]) rfl ?_)
          exact ⟨0, false, 0, ⟨#[]⟩, none, 0, 0, none, 0, 0, by rw [HX.out], by rw [HX.out]; exact rep_leaf _ _ _ _ _ [], (Below.drew ((Up.one HG7.out HZ.out (Nat.le_refl _)).below))⟩
      · have hpf : te ≠ 0 := h0
        have e7 : (te == 0) = false := by simpa using h0
        have HX : Hid (docP s.data.toList d = (zV, endP blkB s.data.toList a, te)) := by
          show _ = _
          rw [HDP.out]
          unfold failQ
          rw [if_pos (show (0 : Int) = 0 ∧ te ≠ 6 from ⟨rfl, h6⟩), if_pos rfl, if_neg h0]
          dsimp only
          rw [if_pos hpf]
        have HFX := Lib.hid (fail_c s ⟨a, 0, p⟩ W0.heap.size te W5 HQ5.out hs ha)
        have e9 : ((te : Int) != 0) = true := bne_iff_ne.2 hpf
        clear c0 c1 c2 c3
        obtain ⟨c0, c1, c2, c3⟩ := cells4q HQ5.out
        go_upto_region 10 with (go_at_call 14; (with_reducible refine HFX.out.mono ?_); rintro e w6 ⟨rfl, hq6⟩; have HQ6 := Lib.hid hq6; clear hq6)
        have HQ7 : Hid (w6.heap[W0.heap.size]? = some (obQ s ⟨a, te, endP blkB s.data.toList a⟩)) := by have := HQ6.out.1; unfold failQ at this; rw [if_pos rfl] at this; exact Lib.hid this
        have HR7 : Hid (w6.heap[w.heap.size]? = some zW) := (HQ6.out.2.block _ (Array.getElem?_eq_some_iff.1 HR5.out).1 (fun e => hne (by injection e with e; omega))).trans HR5.out
        have HG7 : Hid (Up w w6) := Up.one HG5.out (Grw.of_gb HQ6.out.2 (fun j e => by injection e with e; exact e.symm)) (by omega)
        clear HQ6 c0 c1 c2 c3
        obtain ⟨c0, c1, c2, c3⟩ := cells4q HQ7.out
        go_upto_region 11 with (fail)
        obtain ⟨u0, u1, u2, u3, u4, u5⟩ := cells6 HR7.out
        have z0 := frz HR7.out 0
        have z1 := frz HR7.out 1
        have z2 := frz HR7.out 2
        have z3 := frz HR7.out 3
        have z4 := frz HR7.out 4
        have z5 := frz HR7.out 5
        have HH := Lib.hid (set6 HR7.out (.int .i64 0) (.bool false) (.int .i64 0) (.string ⟨#[]⟩) (.slice none 0 0) (.slice none 0 0))
        have HZ := Lib.hid (gr_set6 w6 w.heap.size (.int .i64 0) (.bool false) (.int .i64 0) (.string ⟨#[]⟩) (.slice none 0 0) (.slice none 0 0))
        go_region
        all_goals
          go_wp2_with fail
          obtain ⟨d0, d1, d2, d3, d4, d5⟩ := cells6 HH.out
          clear u0 u1 u2 u3 u4 u5 z0 z1 z2 z3 z4 z5
          (with_reducible refine bodyPost_ret (v := .tuple #[.agg #[.int .i64 0, .bool false, .int .i64 0, .string ⟨#[]⟩, .slice none 0 0, .slice none 0 0], .int .i64 (endP blkB s.data.toList a : Int), .int .i64 te]) (by simp [results, Tryz.results5, go_sem, d0, d1, d2, d3, d4, d5]) rfl ?_)
          exact ⟨0, false, 0, ⟨#[]⟩, none, 0, 0, none, 0, 0, by rw [HX.out], by rw [HX.out]; exact rep_leaf _ _ _ _ _ [], (Below.drew ((Up.one HG7.out HZ.out (Nat.le_refl _)).below))⟩
  · have e1 : (b == 0) = false := by simpa using hb
    have e9 : (b != 0) = true := by rw [bne, e1]; rfl
    have HX : Hid (docP s.data.toList d = (zV, p, b)) := by
      show _ = _
      rw [HDP.out, if_neg (show ¬ (b = 0 ∧ te ≠ 6) from fun g => hb g.1)]
      dsimp only
      rw [if_pos hb]
    clear c0 c1 c2 c3 hb
    obtain ⟨c0, c1, c2, c3⟩ := cells4q HQ5.out
    go_upto_region 11 with (fail)
    obtain ⟨u0, u1, u2, u3, u4, u5⟩ := cells6 HR5.out
    have z0 := frz HR5.out 0
    have z1 := frz HR5.out 1
    have z2 := frz HR5.out 2
    have z3 := frz HR5.out 3
    have z4 := frz HR5.out 4
    have z5 := frz HR5.out 5
    have HH := Lib.hid (set6 HR5.out (.int .i64 0) (.bool false) (.int .i64 0) (.string ⟨#[]⟩) (.slice none 0 0) (.slice none 0 0))
    have HZ := Lib.hid (gr_set6 W5 w.heap.size (.int .i64 0) (.bool false) (.int .i64 0) (.string ⟨#[]⟩) (.slice none 0 0) (.slice none 0 0))
    go_region
    all_goals
      go_wp2_with fail
      obtain ⟨d0, d1, d2, d3, d4, d5⟩ := cells6 HH.out
      clear u0 u1 u2 u3 u4 u5 z0 z1 z2 z3 z4 z5
      (with_reducible refine bodyPost_ret (v := .tuple #[.agg #[.int .i64 0, .bool false, .int .i64 0, .string ⟨#[]⟩, .slice none 0 0, .slice none 0 0], .int .i64 (p : Int), .int .i64 b]) (by simp [results, Tryz.results5, go_sem, d0, d1, d2, d3, d4, d5]) rfl ?_)
      exact ⟨0, false, 0, ⟨#[]⟩, none, 0, 0, none, 0, 0, by rw [HX.out], by rw [HX.out]; exact rep_leaf _ _ _ _ _ [], (Below.drew ((Up.one HG5.out HZ.out (Nat.le_refl _)).below))⟩
theorem RParse_c (s : ByteArray) (d : Int) (w : World) (hs : s.size ≤ 1000) : Calls Tryz.prog 5 #[.string s, .int .i64 d] w (PaQ (parseP s.data.toList d) w) := by
  rw [← doc_is]
  by_cases hd : 16 < d
  · exact rp_hi s d w hs hd
  · exact rp_lo s d w hs hd
end Go.Proofs.YtpgllcdcpdeicaaGreatDoor.Jv
