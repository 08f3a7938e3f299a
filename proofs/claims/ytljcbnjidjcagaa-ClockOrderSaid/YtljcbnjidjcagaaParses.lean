/- Contract of Parse of package clock: the time whose text it is, or why there is none; for every text of at most a thousand bytes. -/
import Derived.Test.YtljcbnjidjcagaaForms
namespace Go.Proofs.Ytljcbnjidjcagaa
open Go.RowKit
set_option linter.unusedSimpArgs false
set_option linter.unusedVariables false

/-- what stands from a to b in a text, as a number -/
def fld (l : List UInt8) (a b : Nat) : Int := numL ((l.drop a).take (b - a))
def tmB (l : List UInt8) : Bool := formB l && vldB (fld l 0 4) (fld l 5 7) (fld l 8 10) && decide (fld l 11 13 ≤ 23 ∧ fld l 14 16 ≤ 59 ∧ fld l 17 19 ≤ 59)
def tmV (l : List UInt8) : Int := dayN (fld l 0 4) (fld l 5 7) (fld l 8 10) * 86400 + (fld l 11 13 * 3600 + fld l 14 16 * 60 + fld l 17 19)
def parT (l : List UInt8) : Int := if tmB l = true ∧ tmV l ≤ 137438953472 then tmV l else 0
def parE (l : List UInt8) : Int := if tmB l = true then (if tmV l ≤ 137438953472 then 0 else 5) else 3

theorem piece_d {l : List UInt8} (h : formB l = true) (a b : Nat) (hab : a ≤ b) (hb : b ≤ 20) (hd : (List.range 20).all (fun j => decide (a ≤ j → j < b → isD (formL.getD j 0) = true)) = true) :
    ((l.drop a).take (b - a)).all isD = true ∧ ((l.drop a).take (b - a)).length = b - a := by
  obtain ⟨hl, ho⟩ := (form_iff l).1 h
  have hlen : ((l.drop a).take (b - a)).length = b - a := by rw [List.length_take, List.length_drop]; omega
  refine ⟨?_, hlen⟩
  rw [List.all_eq_true]
  intro x hx
  obtain ⟨i, hi, rfl⟩ := List.getElem_of_mem hx
  rw [hlen] at hi
  have hj : a + i < 20 := by omega
  have hf : isD (formL.getD (a + i) 0) = true := of_decide_eq_true (List.all_eq_true.1 hd (a + i) (List.mem_range.2 hj)) (by omega) (by omega)
  have := ho (a + i) hj
  unfold okAt at this
  rw [if_pos hf] at this
  rw [List.getElem_take, List.getElem_drop]
  rw [List.getD, List.getElem?_eq_getElem (by omega)] at this
  exact this
theorem fld_bd4 {l : List UInt8} (h : ((l.drop 0).take (4 - 0)).all isD = true ∧ ((l.drop 0).take (4 - 0)).length = 4 - 0) : 0 ≤ fld l 0 4 ∧ fld l 0 4 ≤ 9999 := by
  have := numL_bd _ h.1
  rw [h.2] at this
  unfold fld
  have e : (10 : Int) ^ (4 - 0) = 10000 := by decide
  omega
theorem fld_bd2 {l : List UInt8} {a b : Nat} (hab : b - a = 2) (h : ((l.drop a).take (b - a)).all isD = true ∧ ((l.drop a).take (b - a)).length = b - a) : 0 ≤ fld l a b ∧ fld l a b ≤ 99 := by
  have := numL_bd _ h.1
  rw [h.2] at this
  unfold fld
  rw [hab] at *
  have e : (10 : Int) ^ 2 = 100 := by decide
  omega
theorem NumT_of {s : ByteArray} {a b : Nat} (hab : b - a ≤ 9) (h : ((s.data.toList.drop a).take (b - a)).all isD = true ∧ ((s.data.toList.drop a).take (b - a)).length = b - a) : NumT (s.extract a b) := by
  refine ⟨?_, ?_⟩
  · rw [Lib.size_eq, Lib.extract_data, h.2]; exact hab
  · rw [Lib.extract_data]; exact h.1
theorem num_c {s : ByteArray} {a b : Nat} (h : NumT (s.extract a b)) (w : World) : Calls Try.prog 23 #[.string (s.extract a b)] w fun e w' => e = .returned (.int .i64 (fld s.data.toList a b)) ∧ w' = w := by
  have := number_c (s.extract a b) w h
  rw [Lib.extract_data] at this
  exact this
theorem flip_w {P : Program} {f : FuncId} {args : Array Value} {w : World} {v : Value} (h : Calls P f args w fun e w' => e = .returned v ∧ w = w') : Calls P f args w fun e w' => e = .returned v ∧ w' = w :=
  h.mono fun _ _ ⟨a, b⟩ => ⟨a, b.symm⟩

/-- a call that leaves the world alone, in a region behind a region that drew -/
theorem quiet_more {P : Program} {f : FuncId} {args : Array Value} {w : World} {p q : Nat} {v : Value} (h : Calls P f args (w.drewN (p + q)) fun e w' => e = .returned v ∧ w' = w.drewN (p + q)) :
    Calls P f args (w.drewN (p + q)) fun e w' => e = .returned v ∧ ∃ m, w' = w.drewN (p + m) := h.mono fun _ _ hh => ⟨hh.1, q, hh.2⟩

theorem parse_form (s : ByteArray) (w : World) (hs : s.size ≤ 1000) (hf : formB s.data.toList = false) : Calls Try.prog 14 #[.string s] w fun e w' => e = .returned (.tuple #[.int .i64 0, .int .i64 3]) ∧ Below w.heap.size w w' := by
  have HF := Lib.hid (formed_c s w hs)
  rw [hf] at HF
  clear hf
  go_enter Try.func14, Try.ntmps14
  go_wp2_with (go_at_call 22; refine HF.out.mono ?_; rintro e w1 ⟨rfl, hb⟩; have HB := Lib.hid hb; clear hb)
  go_ret2
  exact ⟨rfl, HB.out⟩

theorem ret2_ii {k k' : IntKind} {a b a' b' : Int} (h : a = b) (h' : a' = b') : Ending.returned (.tuple #[.int k a, .int k' a']) = .returned (.tuple #[.int k b, .int k' b']) := by rw [h, h']
set_option maxHeartbeats 2000000 in
theorem parse_x (s : ByteArray) (w : World) (hs : s.size = 20) (hf : formB s.data.toList = true) : Calls Try.prog 14 #[.string s] w fun e w' => e = .returned (.tuple #[.int .i64 (parT s.data.toList), .int .i64 (parE s.data.toList)]) ∧ Below w.heap.size w w' := by
  have HF := Lib.hid (formed_c s w (by omega))
  rw [hf] at HF
  have p1 := piece_d hf 0 4 (by decide) (by decide) (by decide)
  have p2 := piece_d hf 5 7 (by decide) (by decide) (by decide)
  have p3 := piece_d hf 8 10 (by decide) (by decide) (by decide)
  have p4 := piece_d hf 11 13 (by decide) (by decide) (by decide)
  have p5 := piece_d hf 14 16 (by decide) (by decide) (by decide)
  have p6 := piece_d hf 17 19 (by decide) (by decide) (by decide)
  obtain ⟨y0, y1⟩ := fld_bd4 p1
  obtain ⟨m0, m1⟩ := fld_bd2 rfl p2
  obtain ⟨d0, d1⟩ := fld_bd2 rfl p3
  obtain ⟨a0, a1⟩ := fld_bd2 rfl p4
  obtain ⟨b0, b1⟩ := fld_bd2 rfl p5
  obtain ⟨c0, c1⟩ := fld_bd2 rfl p6
  have N1 := Lib.hid (num_c (NumT_of (by decide) p1))
  have N2 := Lib.hid (num_c (NumT_of (by decide) p2))
  have N3 := Lib.hid (num_c (NumT_of (by decide) p3))
  have N4 := Lib.hid (num_c (NumT_of (by decide) p4))
  have N5 := Lib.hid (num_c (NumT_of (by decide) p5))
  have N6 := Lib.hid (num_c (NumT_of (by decide) p6))
  have hT : Hid (parT s.data.toList = if tmB s.data.toList = true ∧ tmV s.data.toList ≤ 137438953472 then tmV s.data.toList else 0) := rfl
  have hE : Hid (parE s.data.toList = if tmB s.data.toList = true then (if tmV s.data.toList ≤ 137438953472 then 0 else 5) else 3) := rfl
  have hBB : Hid (tmB s.data.toList = (vldB (fld s.data.toList 0 4) (fld s.data.toList 5 7) (fld s.data.toList 8 10) && decide (fld s.data.toList 11 13 ≤ 23 ∧ fld s.data.toList 14 16 ≤ 59 ∧ fld s.data.toList 17 19 ≤ 59))) := by
    show tmB s.data.toList = _
    unfold tmB; rw [hf]; rfl
  have hVV : Hid (tmV s.data.toList = dayN (fld s.data.toList 0 4) (fld s.data.toList 5 7) (fld s.data.toList 8 10) * 86400 + (fld s.data.toList 11 13 * 3600 + fld s.data.toList 14 16 * 60 + fld s.data.toList 17 19)) := rfl
  have hs20 : 20 ≤ s.size := by omega
  have hs21 : s.size ≤ 20 := by omega
  clear p1 p2 p3 p4 p5 p6 hf hs
  revert N1 N2 N3 N4 N5 N6 hT hE hBB hVV y0 y1 m0 m1 d0 d1 a0 a1 b0 b1 c0 c1
  generalize parT s.data.toList = PT
  generalize parE s.data.toList = PE
  generalize tmB s.data.toList = TB
  generalize tmV s.data.toList = TV
  generalize fld s.data.toList 0 4 = y
  generalize fld s.data.toList 5 7 = m
  generalize fld s.data.toList 8 10 = d
  generalize fld s.data.toList 11 13 = a
  generalize fld s.data.toList 14 16 = b
  generalize fld s.data.toList 17 19 = c
  intro y0 y1 m0 m1 d0 d1 a0 a1 b0 b1 c0 c1 N1 N2 N3 N4 N5 N6 hT hE hBB hVV
  cases hv : vldB y m d with
  | false =>
    have HD := Lib.hid (fun W => flip_w (days_no y m d W hv))
    have e1 : Hid (TB = false) := by show TB = false; rw [hBB.out, hv]; rfl
    clear hv
    go_enter Try.func14, Try.ntmps14
    go_wp2_with (go_at_call 22; refine HF.out.mono ?_; rintro e w1 ⟨rfl, hb⟩; have HB := Lib.hid hb; clear hb)
    go_quiet ((first
      | (go_at_call 23; first | with_reducible exact Calls.quiet_of_same (N1.out _) | with_reducible exact Calls.quiet_of_same (N2.out _) | with_reducible exact Calls.quiet_of_same (N3.out _))
      | (go_at_call 8; exact Calls.quiet_of_same (HD.out _))))
    go_wp2
    go_quiet ((go_at_call 23; first | with_reducible exact quiet_more (N4.out _) | with_reducible exact quiet_more (N5.out _) | with_reducible exact quiet_more (N6.out _)))
    go_wp2
    go_ret2
    exact ⟨ret2_ii (by rw [hT.out, e1.out]; rfl) (by rw [hE.out, e1.out]; rfl), below_drewN HB.out _⟩
  | true =>
    obtain ⟨D0, D1⟩ := day_bd hv
    have HD := Lib.hid (fun W => flip_w (days_yes y m d W hv))
    rw [hv, Bool.true_and] at hBB
    clear hv
    revert HD D0 D1 hVV
    generalize dayN y m d = D
    intro hVV D0 D1 HD
    by_cases ha : a ≤ 23
    · by_cases hb' : b ≤ 59
      · by_cases hc : c ≤ 59
        · have e1 : Hid (TB = true) := by show TB = true; rw [hBB.out]; exact decide_eq_true ⟨ha, hb', hc⟩
          clear hBB
          by_cases hbig : D * 86400 + (a * 3600 + b * 60 + c) ≤ 137438953472
          · have e2 : Hid (TV ≤ 137438953472) := by show TV ≤ 137438953472; rw [hVV.out]; exact hbig
            go_enter Try.func14, Try.ntmps14
            go_wp2_with (go_at_call 22; refine HF.out.mono ?_; rintro e w1 ⟨rfl, hb⟩; have HB := Lib.hid hb; clear hb)
            go_quiet ((first
              | (go_at_call 23; first | with_reducible exact Calls.quiet_of_same (N1.out _) | with_reducible exact Calls.quiet_of_same (N2.out _) | with_reducible exact Calls.quiet_of_same (N3.out _))
              | (go_at_call 8; exact Calls.quiet_of_same (HD.out _))))
            go_wp2
            go_quiet ((go_at_call 23; first | with_reducible exact quiet_more (N4.out _) | with_reducible exact quiet_more (N5.out _) | with_reducible exact quiet_more (N6.out _)))
            go_wp2
            go_ret2
            exact ⟨ret2_ii (by rw [hT.out, e1.out, if_pos ⟨rfl, e2.out⟩, hVV.out]) (by rw [hE.out, e1.out, if_pos rfl, if_pos e2.out]), below_drewN HB.out _⟩
          · have e2 : Hid (137438953472 < TV) := by show 137438953472 < TV; rw [hVV.out]; omega
            have hbig2 : 137438953472 < D * 86400 + (a * 3600 + b * 60 + c) := by omega
            clear hbig
            go_enter Try.func14, Try.ntmps14
            go_wp2_with (go_at_call 22; refine HF.out.mono ?_; rintro e w1 ⟨rfl, hb⟩; have HB := Lib.hid hb; clear hb)
            go_quiet ((first
              | (go_at_call 23; first | with_reducible exact Calls.quiet_of_same (N1.out _) | with_reducible exact Calls.quiet_of_same (N2.out _) | with_reducible exact Calls.quiet_of_same (N3.out _))
              | (go_at_call 8; exact Calls.quiet_of_same (HD.out _))))
            go_wp2
            go_quiet ((go_at_call 23; first | with_reducible exact quiet_more (N4.out _) | with_reducible exact quiet_more (N5.out _) | with_reducible exact quiet_more (N6.out _)))
            go_wp2
            go_ret2
            exact ⟨ret2_ii (by rw [hT.out, if_neg (fun h => by have := e2.out; omega)]) (by rw [hE.out, e1.out, if_pos rfl, if_neg (by have := e2.out; omega)]), below_drewN HB.out _⟩
        · have e1 : Hid (TB = false) := by show TB = false; rw [hBB.out]; exact decide_eq_false (fun h => hc h.2.2)
          have hc2 : 59 < c := by omega
          clear hBB hc
          go_enter Try.func14, Try.ntmps14
          go_wp2_with (go_at_call 22; refine HF.out.mono ?_; rintro e w1 ⟨rfl, hb⟩; have HB := Lib.hid hb; clear hb)
          go_quiet ((first
            | (go_at_call 23; first | with_reducible exact Calls.quiet_of_same (N1.out _) | with_reducible exact Calls.quiet_of_same (N2.out _) | with_reducible exact Calls.quiet_of_same (N3.out _))
            | (go_at_call 8; exact Calls.quiet_of_same (HD.out _))))
          go_wp2
          go_quiet ((go_at_call 23; first | with_reducible exact quiet_more (N4.out _) | with_reducible exact quiet_more (N5.out _) | with_reducible exact quiet_more (N6.out _)))
          go_wp2
          go_ret2
          exact ⟨ret2_ii (by rw [hT.out, e1.out]; rfl) (by rw [hE.out, e1.out]; rfl), below_drewN HB.out _⟩
      · have e1 : Hid (TB = false) := by show TB = false; rw [hBB.out]; exact decide_eq_false (fun h => hb' h.2.1)
        have hb2 : 59 < b := by omega
        clear hBB hb'
        go_enter Try.func14, Try.ntmps14
        go_wp2_with (go_at_call 22; refine HF.out.mono ?_; rintro e w1 ⟨rfl, hb⟩; have HB := Lib.hid hb; clear hb)
        go_quiet ((first
          | (go_at_call 23; first | with_reducible exact Calls.quiet_of_same (N1.out _) | with_reducible exact Calls.quiet_of_same (N2.out _) | with_reducible exact Calls.quiet_of_same (N3.out _))
          | (go_at_call 8; exact Calls.quiet_of_same (HD.out _))))
        go_wp2
        go_quiet ((go_at_call 23; first | with_reducible exact quiet_more (N4.out _) | with_reducible exact quiet_more (N5.out _) | with_reducible exact quiet_more (N6.out _)))
        go_wp2
        go_ret2
        exact ⟨ret2_ii (by rw [hT.out, e1.out]; rfl) (by rw [hE.out, e1.out]; rfl), below_drewN HB.out _⟩
    · have e1 : Hid (TB = false) := by show TB = false; rw [hBB.out]; exact decide_eq_false (fun h => ha h.1)
      have ha2 : 23 < a := by omega
      clear hBB ha
      go_enter Try.func14, Try.ntmps14
      go_wp2_with (go_at_call 22; refine HF.out.mono ?_; rintro e w1 ⟨rfl, hb⟩; have HB := Lib.hid hb; clear hb)
      go_quiet ((first
        | (go_at_call 23; first | with_reducible exact Calls.quiet_of_same (N1.out _) | with_reducible exact Calls.quiet_of_same (N2.out _) | with_reducible exact Calls.quiet_of_same (N3.out _))
        | (go_at_call 8; exact Calls.quiet_of_same (HD.out _))))
      go_wp2
      go_quiet ((go_at_call 23; first | with_reducible exact quiet_more (N4.out _) | with_reducible exact quiet_more (N5.out _) | with_reducible exact quiet_more (N6.out _)))
      go_wp2
      go_ret2
      exact ⟨ret2_ii (by rw [hT.out, e1.out]; rfl) (by rw [hE.out, e1.out]; rfl), below_drewN HB.out _⟩

theorem parse_c (s : ByteArray) (w : World) (hs : s.size ≤ 1000) : Calls Try.prog 14 #[.string s] w fun e w' => e = .returned (.tuple #[.int .i64 (parT s.data.toList), .int .i64 (parE s.data.toList)]) ∧ Below w.heap.size w w' := by
  cases hf : formB s.data.toList with
  | true =>
    have := ((form_iff _).1 hf).1
    rw [← Lib.size_eq] at this
    exact parse_x s w this hf
  | false =>
    have e : tmB s.data.toList = false := by unfold tmB; rw [hf]; rfl
    have e1 : parT s.data.toList = 0 := by unfold parT; rw [e]; rfl
    have e2 : parE s.data.toList = 3 := by unfold parE; rw [e]; rfl
    rw [e1, e2]
    exact parse_form s w hs hf
end Go.Proofs.Ytljcbnjidjcagaa
