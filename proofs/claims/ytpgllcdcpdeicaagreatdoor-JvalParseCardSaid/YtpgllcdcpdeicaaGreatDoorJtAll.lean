/- The contract of package jtok's All: all tokens of a text, and where it goes wrong; for every text of at most a thousand bytes; where the tables lie as the program's text lays them. -/
import Derived.Test.YtpgllcdcpdeicaaGreatDoorJtAllP
import Derived.Test.YtpgllcdcpdeicaaGreatDoorJtIs
import Derived.Deep.QuietTactic
import Derived.BigQuiet
namespace Go.Proofs.YtpgllcdcpdeicaaGreatDoor.Jt
open Go.RowKit
set_option linter.unusedSimpArgs false
set_option linter.unusedVariables false

/-- a slice of tokens of the call's own -/
def OwT (T : TypeId) (B : Nat) (v : Value) (ts : List Tok) (w : World) : Prop := w.ownsRow B T 5 v ts.length (tksC ts)
theorem OwT.go {T : TypeId} {B : Nat} {v : Value} {ts : List Tok} {w w' : World} (h : OwT T B v ts w) (hb : Below w.heap.size w w') : OwT T B v ts w' :=
  World.ownsRow.kept h (row := none) ⟨hb.os, hb.tape, hb.output, hb.size, fun k hk _ => hb.block k hk⟩ (by cases hv : v.ownBlock <;> simp)
theorem OwT.sl {T : TypeId} {B : Nat} {v : Value} {ts : List Tok} {w : World} (h : OwT T B v ts w) : ∃ ao n cap, v = .slice ao n cap := by
  rcases h.2 with ⟨rfl, _⟩ | ⟨g, cap, cur, rfl, _⟩
  · exact ⟨_, _, _, rfl⟩
  · exact ⟨_, _, _, rfl⟩
def AlP (T : TypeId) (l : List UInt8) (w : World) (e : Ending) (w' : World) : Prop :=
  ∃ v, e = .returned (.tuple #[v, .int .i64 ((allA l 0).2.1 : Nat), .int .i64 (allA l 0).2.2]) ∧ OwT T w.heap.size v (allA l 0).1 w' ∧ Below w.heap.size w w'
def AlR (T : TypeId) (l : List UInt8) (w : World) (vl va : Value) (wr : World) : Prop := ∃ (k : Nat) (acc : List Tok), va = .int .i64 (k : Int) ∧ k ≤ l.length ∧ acc.length ≤ k ∧ OwT T w.heap.size vl acc wr ∧ Below w.heap.size w wr ∧ allA l 0 = (acc ++ (allA l k).1, (allA l k).2)
theorem alp_mk {T : TypeId} {l : List UInt8} {w w' : World} {e : Ending} {v : Value} {ts : List Tok} {q : Nat} {x : Int} (hA : allA l 0 = (ts, q, x)) (he : e = .returned (.tuple #[v, .int .i64 (q : Nat), .int .i64 x])) (ho : OwT T w.heap.size v ts w') (hb : Below w.heap.size w w') : AlP T l w e w' := by
  refine ⟨v, ?_, ?_, hb⟩
  · rw [hA]; exact he
  · rw [hA]; exact ho
theorem infoTok : (Tryz.prog.info? 60).map (fun i => (i.zero, i.size, i.bytes)) = some (some (.agg #[.int .i64 0, .int .i64 0, .int .i64 0, .string ⟨#[]⟩, .int .i64 0]), 5, 48) := by kernel_rfl
set_option maxRecDepth 100000 in
set_option maxHeartbeats 16000000 in
theorem All_c (s : ByteArray) (w : World) (hE : Env w) (hs : s.size ≤ 1000) : Calls Tryz.prog 34 #[.string s] w (AlP 60 s.data.toList w) := by
  have hsl := Lib.hid (size_l s)
  have HE := Lib.hid hE
  obtain ⟨i0, hi, hz0, hz1, hz2⟩ := info_parts infoTok
  clear hE
  have HST : Hid (AlR 60 s.data.toList w (.slice none 0 0) (.int .i64 0) w) := ⟨0, [], rfl, by omega, by simp, ⟨rfl, .inl ⟨rfl, rfl⟩⟩, Below.refl _ _, by simp⟩
  go_enter Tryz.func34, Tryz.ntmps34
  go_wp2
  go_loopw [5, 6] (fun vl va wr => AlR 60 s.data.toList w vl va wr) (fun _ va _ => s.size + 1 - (intOf va).toNat)
  case atStart => exact HST.out
  case round =>
    clear HST
    obtain ⟨k, acc, rfl, hk, hacc, hown, hB, hal⟩ := hrel
    rw [← hsl.out] at hk
    have HO := Lib.hid hown
    have HB := Lib.hid hB
    have HAL := Lib.hid hal
    clear hown hB hal
    have HEr : Hid (Env wr) := ⟨HE.out.1.below HB.out HE.out.1.two, (HB.out.cell (p := ⟨0, 0, none⟩) (World.block_lt_of_cell? w _ HE.out.2)).trans HE.out.2⟩
    have HN := Lib.hid (next_c s k wr HEr.out.1 hs hk)
    by_cases h0 : (tokA s.data.toList k).2 = 0
    · rw [h0, er0] at HN
      have hbd := tokA_bd (l := s.data.toList) (k := k) (by rw [← hsl.out]; exact hk) h0
      have hA2 := HAL.out
      rw [all_step (by rw [← hsl.out]; exact hk) h0] at hA2
      have HA2 : Hid (allA s.data.toList 0 = ((acc ++ [(tokA s.data.toList k).1]) ++ (allA s.data.toList (tokA s.data.toList k).1.b).1, (allA s.data.toList (tokA s.data.toList k).1.b).2)) := by
        show allA s.data.toList 0 = _
        rw [hA2]; simp
      rw [← hsl.out] at hbd
      clear hA2 HAL h0
      revert HN hbd HA2
      generalize (tokA s.data.toList k).1 = T
      intro HN hbd HA2
      obtain ⟨tk, ta, tb, tt, tn⟩ := T
      simp only [tupV, tkV, tokV] at HN hbd HA2
      obtain ⟨hb1', hb2'⟩ := hbd
      go_wp2_with fail
      refine HN.out.mono ?_
      rintro e w1 ⟨rfl, hb1⟩
      have HB1 : Hid (Below w.heap.size w w1) := HB.out.trans (hb1.mono HB.out.size)
      have HO1 := Lib.hid (HO.out.go hb1)
      clear hb1
      have HD : Hid (∃ W2, W2 = ((w1.alloc (.cells #[.int .i64 tk, .int .i64 ta, .int .i64 tb, .string (mkS tt), .int .i64 tn] 60)).alloc (.cells #[.int .i64 0, .int .i64 0] 124)).alloc (.cells #[.int .i64 tk, .int .i64 ta, .int .i64 tb, .string (mkS tt), .int .i64 tn] 60) ∧ W2.heap[w1.heap.size]? = some (.cells #[.int .i64 tk, .int .i64 ta, .int .i64 tb, .string (mkS tt), .int .i64 tn] 60 (0, 0)) ∧
          W2.heap[w1.heap.size + 1 + 1]? = some (.cells #[.int .i64 tk, .int .i64 ta, .int .i64 tb, .string (mkS tt), .int .i64 tn] 60 (0, 0)) ∧ Below w1.heap.size w1 W2) := by
        refine ⟨_, rfl, (Below.heap_alloc _ _ _ (by simp; omega)).trans ((Below.heap_alloc _ _ _ (by simp)).trans (heap_alloc_new w1 _)), ?_, (((Below.refl _ _).alloc (Nat.le_refl _) _).alloc (by simp) _).alloc (by simp; omega) _⟩
        have := heap_alloc_new ((w1.alloc (.cells #[.int .i64 tk, .int .i64 ta, .int .i64 tb, .string (mkS tt), .int .i64 tn] 60)).alloc (.cells #[.int .i64 0, .int .i64 0] 124)) (.cells #[.int .i64 tk, .int .i64 ta, .int .i64 tb, .string (mkS tt), .int .i64 tn] 60)
        simpa using this
      obtain ⟨W2, hW2, hk2, hk3, hbW⟩ := HD.out
      have HK2 := Lib.hid hk2
      have HK3 := Lib.hid hk3
      have HBW := Lib.hid hbW
      have HOW := Lib.hid (HO1.out.go hbW)
      have HW2 := Lib.hid hW2
      clear HD hk2 hk3 hbW hW2
      go_wp2_with (first | (go_at_call 11; refine (is_nil _).mono ?_; rintro e w' ⟨rfl, rfl⟩) | (go_at_call 10; refine (as_nil _ _).mono ?_; rintro e w' ⟨rfl, rfl⟩) | (at_builtin; rw [← HW2.out]; refine wpList_append_own _ rfl _ _ 91 rfl w.heap.size 60 i0 _ 5 48 Tryz.underlying91 hi hz0 hz1 hz2 rfl (by decide) _ _ _ rfl HOW.out ⟨w1.heap.size + 1 + 1, 0, none⟩ 1 1 (tkC ⟨tk, ta, tb, tt, tn⟩) rfl rfl ?c1 ?c2 ?c3 ?c4 ?c5 ?_))
      case c1 =>
        intro j u hj
        have hj5 : j < 5 := by
          rcases Nat.lt_or_ge j 5 with h | h
          · exact h
          · rw [List.getElem?_eq_none (by show 5 ≤ j; exact h)] at hj; cases hj
        have ea : (⟨w1.heap.size + 1 + 1, 0, none⟩ : Addr).add j = ⟨w1.heap.size + 1 + 1, j, none⟩ := by unfold Addr.add; split <;> simp_all
        rw [ea, Ut.blk_cell HK3.out j]
        match j, hj5 with
        | 0, _ => exact hj
        | 1, _ => exact hj
        | 2, _ => exact hj
        | 3, _ => exact hj
        | 4, _ => exact hj
      case c2 => intro u hu; simp [tkC] at hu; rcases hu with rfl | rfl | rfl | rfl | rfl <;> rfl
      case c3 => unfold maxLen; omega
      case c4 => omega
      case c5 => have := HB1.out.size; have := HBW.out.size; omega
      intro v' w5 hown' hgrow _
      have HO5 : Hid (OwT 60 w.heap.size v' (acc ++ [⟨tk, ta, tb, tt, tn⟩]) w5) := by
        show OwT 60 w.heap.size v' (acc ++ [⟨tk, ta, tb, tt, tn⟩]) w5
        unfold OwT
        rw [tksC_snoc, List.length_append]
        exact hown'
      have HB5 : Hid (Below w.heap.size w w5) := by
        have hb := HB1.out.trans (HBW.out.mono HB1.out.size)
        exact hb.grown hgrow hb.size (fun k hk => (HOW.out.lt k hk).1)
      have c52 : w5.cell? ⟨w1.heap.size, 2, none⟩ = some (.int .i64 tb) := by
        have hlt := (Array.getElem?_eq_some_iff.1 HK2.out).1
        have hne : ¬ some w1.heap.size = u5.ownBlock := fun e => by
          have := (HO1.out.lt w1.heap.size e.symm).2
          omega
        have hk5 := (hgrow.block w1.heap.size hlt hne).trans HK2.out
        exact Ut.blk_cell hk5 2
      obtain ⟨ao, n', cap, rfl⟩ := HO5.out.sl
      clear hown' hgrow
      go_wp2
      go_roundw
      case rel => exact ⟨tb, acc ++ [⟨tk, ta, tb, tt, tn⟩], rfl, by rw [← hsl.out]; omega, by rw [List.length_append]; simp; omega, HO5.out, HB5.out, HA2.out⟩
      case measure => simp [intOf]; omega
    · rw [tokA_zero h0, er1 h0, zT_v] at HN
      simp only [tupV, tokV, fltV] at HN
      by_cases h6 : (tokA s.data.toList k).2 = 6
      · have HA2 : Hid (allA s.data.toList 0 = (acc, s.size, 0)) := by
          show allA s.data.toList 0 = _
          rw [HAL.out, all_none h6, ← hsl.out]; simp
        rw [h6] at HN
        have HIS := Lib.hid (fun W => is_flt (endP blkB s.data.toList k : Nat) 6 true rfl W)
        clear HAL h0 h6
        revert HN HIS
        generalize endP blkB s.data.toList k = q
        intro HN HIS
        go_wp2_with (first | (go_at_call 49; refine HN.out.mono ?_; rintro e w1 ⟨rfl, hb1⟩; have HB1 : Hid (Below w.heap.size w w1) := HB.out.trans (hb1.mono HB.out.size); have HO1 := Lib.hid (HO.out.go hb1); clear hb1) | (go_at_call 11; refine (HIS.out _).mono ?_; rintro e w2 ⟨rfl, hb2⟩; have HB2 := Lib.hid hb2; clear hb2))
        go_ret3
        have hb0 := HB1.out.alloc HB1.out.size (.cells #[.int .i64 0, .int .i64 0, .int .i64 0, .string emS, .int .i64 0] 60)
        exact alp_mk HA2.out rfl ((HO1.out.go ((Below.refl _ _).alloc (Nat.le_refl _) _)).go HB2.out) (hb0.trans (HB2.out.mono hb0.size))
      · have HA2 : Hid (allA s.data.toList 0 = (acc, endP blkB s.data.toList k, (tokA s.data.toList k).2)) := by
          show allA s.data.toList 0 = _
          rw [HAL.out, all_err h6 h0]; simp
        have HIS := Lib.hid (fun W => is_flt (endP blkB s.data.toList k : Nat) (tokA s.data.toList k).2 false (by simpa using h6) W)
        clear HAL h0 h6
        revert HN HIS HA2
        generalize endP blkB s.data.toList k = q
        generalize (tokA s.data.toList k).2 = te
        intro HN HA2 HIS
        go_wp2_with (first | (go_at_call 49; refine HN.out.mono ?_; rintro e w1 ⟨rfl, hb1⟩; have HB1 : Hid (Below w.heap.size w w1) := HB.out.trans (hb1.mono HB.out.size); have HO1 := Lib.hid (HO.out.go hb1); have HE1 := Lib.hid (HEr.out.go hb1); clear hb1) | (go_at_call 11; refine (HIS.out _).mono ?_; rintro e w2 ⟨rfl, hb2⟩; have HB2 := Lib.hid hb2; clear hb2))
        have hbA : Below w1.heap.size w1 (w1.alloc (.cells #[.int .i64 0, .int .i64 0, .int .i64 0, .string emS, .int .i64 0] 60)) := (Below.refl _ _).alloc (Nat.le_refl _) _
        have hb12 : Below w1.heap.size w1 w2 := hbA.trans (HB2.out.mono hbA.size)
        have HO2 := Lib.hid (HO1.out.go hb12)
        have HBW2 : Hid (Below w.heap.size w w2) := HB1.out.trans (hb12.mono HB1.out.size)
        have HE2 := Lib.hid (HE1.out.go hb12)
        have HD : Hid (∃ W3, W3 = w2.alloc (.cells #[.int .i64 0, .int .i64 0] 124) ∧ W3.heap[w2.heap.size]? = some (.cells #[.int .i64 0, .int .i64 0] 124 (0, 0)) ∧ Below w2.heap.size w2 W3) := ⟨_, rfl, heap_alloc_new w2 _, (Below.refl _ _).alloc (Nat.le_refl _) _⟩
        obtain ⟨W3, hW3, hk3, hb3⟩ := HD.out
        rw [← hW3]
        have HAS := Lib.hid (as_hit 0 0 w2.heap.size (.int .i64 q) (.int .i64 te) (.int .i64 0) (.int .i64 0) W3 rfl rfl (HE2.out.go hb3).2 (Ut.blk_cell hk3 0) (Ut.blk_cell hk3 1) (Ut.blk_frz hk3 0) (Ut.blk_frz hk3 1))
        have HK3 := Lib.hid hk3
        have HB3 := Lib.hid hb3
        clear hbA hb12 HD hW3 hk3 hb3
        refine HAS.out.mono ?_
        rintro e w4 ⟨rfl, W4, hb4, rfl⟩
        have HD : Hid (∃ W5 fb, W5 = (W4.setCell ⟨w2.heap.size, 0, none⟩ (.int .i64 q)).setCell ⟨w2.heap.size, 1, none⟩ (.int .i64 te) ∧ fb = w2.heap.size ∧ W5.heap[fb]? = some (.cells #[.int .i64 q, .int .i64 te] 124 (0, 0)) ∧ Below w2.heap.size w2 W5) := by
          have hlt := (Array.getElem?_eq_some_iff.1 HK3.out).1
          have hbb : Below w2.heap.size w2 W4 := HB3.out.trans (hb4.mono HB3.out.size)
          refine ⟨_, _, rfl, rfl, ?_, (hbb.setCell (by simp) _).setCell (by simp) _⟩
          have := Ut.blk_set (Ut.blk_set ((hb4.block _ hlt).trans HK3.out) 0 (.int .i64 q)) 1 (.int .i64 te)
          simpa using this
        obtain ⟨W5, fb, hW5, hfb, hk5, hb5⟩ := HD.out
        rw [← hW5, ← hfb]
        have HO5 := Lib.hid (HO2.out.go hb5)
        have HB5 : Hid (Below w.heap.size w W5) := HBW2.out.trans (hb5.mono HBW2.out.size)
        have f0 := Ut.blk_cell hk5 0
        have f1 := Ut.blk_cell hk5 1
        clear hW5 hfb hk5 hb5 HD hb4 HAS HK3 HB3
        go_wp2
        go_quiet (fail)
        go_wp2
        go_ret3
        exact alp_mk HA2.out rfl (HO5.out.go (below_drewN (Below.refl _ _) _)) (below_drewN HB5.out _)
end Go.Proofs.YtpgllcdcpdeicaaGreatDoor.Jt
