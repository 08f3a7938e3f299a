/- The contract of package jtok's next: the token behind the blanks at any place that there is, or what is amiss and where; for every text of at most a thousand bytes; where the tables lie as the program's text lays them. -/
import Derived.Test.YtpgllcdcpdeicaaGreatDoorJtTexts
import Derived.Test.YtpgllcdcpdeicaaGreatDoorJtMa
namespace Go.Proofs.YtpgllcdcpdeicaaGreatDoor.Jt
open Go.RowKit
set_option linter.unusedSimpArgs false
set_option linter.unusedVariables false

def tkV (t : Tok) : Value := tokV t.k t.a t.b (mkS t.t) t.n
def erV (p : Nat) (e : Int) : Value := if e = 0 then .nilIface else fltV p e
theorem er0 (p : Nat) : erV p 0 = .nilIface := rfl
theorem er1 {p : Nat} {e : Int} (h : e ≠ 0) : erV p e = fltV p e := by unfold erV; rw [if_neg h]
theorem zT_v : tkV zT = tokV 0 0 0 emS 0 := rfl
theorem number_p (s : ByteArray) (p : Nat) (w : World) (hs : s.size ≤ 1000) (hp : p < s.size) (h : at0 s.data.toList p = 45 ∨ Ch.digB (at0 s.data.toList p) = true) :
    Calls Tryz.prog 60 #[.string s, .int .i64 (p : Int)] w fun e w' => e = tupV (tkV (tokP s.data.toList p).1) (erV p (tokP s.data.toList p).2) ∧ Below w.heap.size w w' := by
  have hd : at0 s.data.toList p = 45 ∨ (48 ≤ at0 s.data.toList p ∧ at0 s.data.toList p ≤ 57) := by rcases h with g | g; exact .inl g; exact .inr (of_decide_eq_true g)
  have hs0 : sgnI (at0 s.data.toList p) = 0 := by
    unfold sgnI
    rw [if_neg (by omega), if_neg (by omega), if_neg (by omega), if_neg (by omega), if_neg (by omega), if_neg (by omega)]
  have ht : tokP s.data.toList p = if Nu.pE (cutL s.data.toList p (endP numB s.data.toList p)) = 0 then (⟨8, p, endP numB s.data.toList p, [], Nu.pN (cutL s.data.toList p (endP numB s.data.toList p))⟩, 0) else (zT, Nu.pE (cutL s.data.toList p (endP numB s.data.toList p))) := by
    unfold tokP; rw [if_neg (by rw [hs0]; simp), if_neg (by omega), if_pos h]
  by_cases hc : Nu.pE (cutL s.data.toList p (endP numB s.data.toList p)) = 0
  · rw [ht, if_pos hc]; exact number_ok s p w hs hp hc
  · rw [ht, if_neg hc]
    refine (number_no s p w hs hp hc).mono fun e w' g => ⟨?_, g.2⟩
    rw [g.1, er1 hc]; rfl
theorem text_p (s : ByteArray) (p : Nat) (w : World) (hT : Ut.Tabs w) (hs : s.size ≤ 1000) (hp : p < s.size) (h : at0 s.data.toList p = 34) :
    Calls Tryz.prog 58 #[.string s, .int .i64 (p : Int)] w fun e w' => e = tupV (tkV (tokP s.data.toList p).1) (erV p (tokP s.data.toList p).2) ∧ Below w.heap.size w w' := by
  have ht : tokP s.data.toList p = match textA s.data.toList (p + 1) with | none => (zT, 3) | some r => (⟨7, p, r.2, r.1, 0⟩, 0) := by
    unfold tokP; rw [h, if_neg (by decide), if_pos rfl]; rfl
  refine (text_c s p w hT hs hp).mono fun e w' g => ?_
  unfold TxP at g
  rw [ht]
  cases hx : textA s.data.toList (p + 1) with
  | none => rw [hx] at g; exact g
  | some r => rw [hx] at g; exact g
theorem word_p (s : ByteArray) (p : Nat) (w : World) (hs : s.size ≤ 1000) (hp : p < s.size) (h : Ch.letB (at0 s.data.toList p) = true) :
    Calls Tryz.prog 62 #[.string s, .int .i64 (p : Int)] w fun e w' => e = tupV (tkV (tokP s.data.toList p).1) (erV p (tokP s.data.toList p).2) ∧ Below w.heap.size w w' := by
  have hd := of_decide_eq_true h
  have hs0 : sgnI (at0 s.data.toList p) = 0 := by
    unfold sgnI
    rw [if_neg (by omega), if_neg (by omega), if_neg (by omega), if_neg (by omega), if_neg (by omega), if_neg (by omega)]
  have ht : tokP s.data.toList p = if wrdK (cutL s.data.toList p (endP wordB s.data.toList p)) = 0 then (zT, 3) else (⟨wrdK (cutL s.data.toList p (endP wordB s.data.toList p)), p, endP wordB s.data.toList p, [], 0⟩, 0) := by
    unfold tokP; rw [if_neg (by rw [hs0]; simp), if_neg (by omega), if_neg (by rintro (g | g); omega; have := of_decide_eq_true g; omega)]
  rw [ht]
  by_cases h9 : cutL s.data.toList p (endP wordB s.data.toList p) = trueL
  · have e : wrdK (cutL s.data.toList p (endP wordB s.data.toList p)) = 9 := by unfold wrdK; rw [if_pos h9]
    rw [e, if_neg (by decide)]; exact word_9 s p w hs hp h9
  · by_cases h10 : cutL s.data.toList p (endP wordB s.data.toList p) = falseL
    · have e : wrdK (cutL s.data.toList p (endP wordB s.data.toList p)) = 10 := by unfold wrdK; rw [if_neg h9, if_pos h10]
      rw [e, if_neg (by decide)]; exact word_10 s p w hs hp h10
    · by_cases h11 : cutL s.data.toList p (endP wordB s.data.toList p) = nullL
      · have e : wrdK (cutL s.data.toList p (endP wordB s.data.toList p)) = 11 := by unfold wrdK; rw [if_neg h9, if_neg h10, if_pos h11]
        rw [e, if_neg (by decide)]; exact word_11 s p w hs hp h11
      · have e : wrdK (cutL s.data.toList p (endP wordB s.data.toList p)) = 0 := by unfold wrdK; rw [if_neg h9, if_neg h10, if_neg h11]
        rw [e, if_pos rfl]; exact word_0 s p w hs hp e
theorem sign_p (s : ByteArray) (p : Nat) (w : World) (hs : s.size ≤ 1000) (hp : p < s.size) (h1 : at0 s.data.toList p ≠ 34) (h2 : ¬ (at0 s.data.toList p = 45 ∨ Ch.digB (at0 s.data.toList p) = true)) (h3 : Ch.letB (at0 s.data.toList p) = false) :
    Calls Tryz.prog 63 #[.string s, .int .i64 (p : Int)] w fun e w' => e = tupV (tkV (tokP s.data.toList p).1) (erV p (tokP s.data.toList p).2) ∧ Below w.heap.size w w' := by
  have yes : ∀ k : Nat, sgnI (at0 s.data.toList p) = k → k ≠ 0 → tokP s.data.toList p = (⟨k, p, p + 1, [], 0⟩, 0) := fun k hk h0 => by
    unfold tokP; rw [hk, if_pos h0]
  by_cases g1 : at0 s.data.toList p = 123
  · rw [yes 1 (by rw [g1]; rfl) (by decide)]; exact sign_1 s p w hs hp g1
  by_cases g2 : at0 s.data.toList p = 125
  · rw [yes 2 (by rw [g2]; rfl) (by decide)]; exact sign_2 s p w hs hp g2
  by_cases g3 : at0 s.data.toList p = 91
  · rw [yes 3 (by rw [g3]; rfl) (by decide)]; exact sign_3 s p w hs hp g3
  by_cases g4 : at0 s.data.toList p = 93
  · rw [yes 4 (by rw [g4]; rfl) (by decide)]; exact sign_4 s p w hs hp g4
  by_cases g5 : at0 s.data.toList p = 58
  · rw [yes 5 (by rw [g5]; rfl) (by decide)]; exact sign_5 s p w hs hp g5
  by_cases g6 : at0 s.data.toList p = 44
  · rw [yes 6 (by rw [g6]; rfl) (by decide)]; exact sign_6 s p w hs hp g6
  have hs0 : sgnI (at0 s.data.toList p) = 0 := by unfold sgnI; rw [if_neg g1, if_neg g2, if_neg g3, if_neg g4, if_neg g5, if_neg g6]
  have hl : p < s.data.toList.length := by rw [← size_l]; exact hp
  have he : endP wordB s.data.toList p = p := endP_no hl (by
    unfold wordB
    rw [← at0_get hl, h3]
    cases hd : Ch.digB (at0 s.data.toList p) with
    | true => exact absurd (.inr hd) h2
    | false => rfl)
  have ht : tokP s.data.toList p = (zT, 3) := by
    unfold tokP; rw [if_neg (by rw [hs0]; simp), if_neg h1, if_neg h2, he, cut_nil]; rfl
  rw [ht]; exact sign_0 s p w hs hp hs0
theorem keep5 {w w2 : World} {o : Obj} (hb : Below (w.alloc o).heap.size (w.alloc o) w2) {cs : Array Value} {t : TypeId} {f : Nat × Nat} (ho : o = .cells cs t f) : w2.heap[w.heap.size]? = some (.cells cs t f) := by
  subst ho
  exact (hb.block _ (by simp)).trans (heap_alloc_new w _)
/-- the blanks at a place, one by one -/
theorem tokA_end {l : List UInt8} {k : Nat} (h : endP blkB l k = l.length) : tokA l k = (zT, 6) := by unfold tokA; rw [if_pos (by omega)]
theorem tokA_at {l : List UInt8} {k p : Nat} (h : endP blkB l k = p) (hp : p < l.length) : tokA l k = tokP l p := by unfold tokA; rw [h, if_neg (by omega)]
set_option maxRecDepth 100000 in
set_option maxHeartbeats 8000000 in
theorem next_r (s : ByteArray) (a tk ta tb : Nat) (tt : List UInt8) (tn te : Int) (E : Value) (w : World) (hT : Ut.Tabs w) (hs : s.size ≤ 1000) (ha : a ≤ s.size) (HR : Hid (tokA s.data.toList a = (⟨tk, ta, tb, tt, tn⟩, te))) (HER : Hid (erV (endP blkB s.data.toList a) te = E)) :
    Calls Tryz.prog 49 #[.string s, .int .i64 (a : Int)] w fun e w' => e = tupV (tokV tk ta tb (mkS tt) tn) E ∧ Below w.heap.size w w' := by
  have hsl := Lib.hid (size_l s)
  have HT := Lib.hid hT
  clear hT
  have ha' : (a : Int) ≤ (s.size : Int) := by omega
  have hd0 : decide ((a : Int) < 0) = false := by first | (simp; done) | (simp; omega)
  have hd1 : decide (s.size < a) = false := by simp; omega
  go_enter Tryz.func49, Tryz.ntmps49
  go_wp2
  go_loop [1] (fun i => ∃ k : Nat, k ≤ s.size ∧ i = .int .i64 k ∧ endP blkB s.data.toList k = endP blkB s.data.toList a) (fun i => s.size - (intOf i).toNat)
  case atStart => exact ⟨a, ha, rfl, rfl⟩
  case round =>
    obtain ⟨k, hk, rfl, hal⟩ := hrel
    have HA := Lib.hid hal
    clear hal
    by_cases hlt : k < s.size
    · have hl : k < s.data.toList.length := by rw [← hsl.out]; exact hlt
      have HY := Lib.hid (@endP_yes blkB s.data.toList k hl)
      have HN := Lib.hid (@endP_no blkB s.data.toList k hl)
      have he : blkB s.data.toList[k] = blkI (s[k].toNat : Int) := by rw [data_at hlt hl]; rfl
      rw [he] at HY HN
      have HC := Lib.hid (fun W => blank_c (s[k].toNat : Int) W)
      clear he
      cases hb : blkI (s[k].toNat : Int) with
      | true =>
        rw [hb] at HC HY HN
        have HZ := Lib.hid (HY.out rfl)
        clear hb HY HN
        go_wp2_with (go_at_call 57; refine (HC.out _).mono ?_; rintro e w' ⟨rfl, rfl⟩)
        go_round
        case rel => exact ⟨k + 1, by omega, by go_num, by rw [HZ.out]; exact HA.out⟩
        case measure => simp [intOf]; omega
      | false =>
        rw [hb] at HC HY HN
        have HZ := Lib.hid (HN.out rfl)
        have HE : Hid (endP blkB s.data.toList a = k) := by show endP blkB s.data.toList a = k; rw [← HA.out, HZ.out]
        have HTK : Hid (tokA s.data.toList a = tokP s.data.toList k) := tokA_at HE.out hl
        have qk : ((k : Int) == (s.size : Int)) = false := by simp; omega
        have hlt' : (k : Int) < (s.size : Int) := by omega
        have HBL := Lib.hid (fun W => HC.out W)
        clear hb HY HN HC HZ HA
        have hbi := byte_i s k hlt
        rw [HE.out] at HER
        clear HE
        by_cases h34 : at0 s.data.toList k = 34
        · have q34 : ((s[k].toNat : Int) == 34) = true := by rw [byte_q s k hlt, h34]; rfl
          have HC := Lib.hid (fun (W : World) (hW : Ut.Tabs W) => text_p s k W hW hs hlt h34)
          rw [← HTK.out, HR.out] at HC
          simp only [tkV] at HC
          rw [HER.out] at HC
          clear HTK h34 hbi
          have HC2 := Lib.hid (HC.out _ (HT.out.alloc (.cells #[.int .i64 0, .int .i64 0, .int .i64 0, .string ⟨#[]⟩, .int .i64 0] 60)))
          clear HC
          go_wp2_with (first | (go_at_call 57; refine (HBL.out _).mono ?_; rintro e w' ⟨rfl, rfl⟩) | (go_at_call 58; refine HC2.out.mono ?_; rintro e w2 ⟨rfl, hb2⟩; have HB2 := Lib.hid hb2; have HBK2 := Lib.hid (keep5 hb2 rfl); clear hb2; have c0 := Ut.blk_cell HBK2.out 0; have c1 := Ut.blk_cell HBK2.out 1; have c2 := Ut.blk_cell HBK2.out 2; have c3 := Ut.blk_cell HBK2.out 3; have c4 := Ut.blk_cell HBK2.out 4; have z0 := Ut.blk_frz HBK2.out 0; have z1 := Ut.blk_frz HBK2.out 1; have z2 := Ut.blk_frz HBK2.out 2; have z3 := Ut.blk_frz HBK2.out 3; have z4 := Ut.blk_frz HBK2.out 4; simp only [tupV, tokV]))
          refine bodyPost_ret (v := .tuple #[tokV tk ta tb (mkS tt) tn, E]) (by simp [results, Tryz.results49, go_sem, tokV, c0, c1, c2, c3, c4]) rfl ⟨rfl, ?_⟩
          have hBB : Below w.heap.size w w2 := ((Below.refl _ _).alloc (Nat.le_refl _) _).trans (HB2.out.mono (by first | (simp; done) | (simp; omega)))
          (repeat (first | exact hBB | refine Below.alloc ?_ (by first | (simp; done) | (simp; omega)) _ | refine Below.setCell ?_ (by first | (simp; done) | (simp; omega)) _))
        · have q34 : ((s[k].toNat : Int) == 34) = false := by rw [byte_q s k hlt, decide_eq_false h34]
          have HDG := Lib.hid (fun W => Ch.dig_c (s[k].toNat : Int) W)
          rw [hbi] at HDG
          by_cases hnum : at0 s.data.toList k = 45 ∨ Ch.digB (at0 s.data.toList k) = true
          · by_cases h45 : at0 s.data.toList k = 45
            · have q45 : ((s[k].toNat : Int) == 45) = true := by rw [byte_q s k hlt, h45]; rfl
              clear HDG
              have HC := Lib.hid (fun (W : World) (hW : Ut.Tabs W) => number_p s k W hs hlt hnum)
              rw [← HTK.out, HR.out] at HC
              simp only [tkV] at HC
              rw [HER.out] at HC
              clear HTK h34 hbi hnum h45
              have HC2 := Lib.hid (HC.out _ (HT.out.alloc (.cells #[.int .i64 0, .int .i64 0, .int .i64 0, .string ⟨#[]⟩, .int .i64 0] 60)))
              clear HC
              go_wp2_with (first | (go_at_call 57; refine (HBL.out _).mono ?_; rintro e w' ⟨rfl, rfl⟩) | (go_at_call 60; refine HC2.out.mono ?_; rintro e w2 ⟨rfl, hb2⟩; have HB2 := Lib.hid hb2; have HBK2 := Lib.hid (keep5 hb2 rfl); clear hb2; have c0 := Ut.blk_cell HBK2.out 0; have c1 := Ut.blk_cell HBK2.out 1; have c2 := Ut.blk_cell HBK2.out 2; have c3 := Ut.blk_cell HBK2.out 3; have c4 := Ut.blk_cell HBK2.out 4; have z0 := Ut.blk_frz HBK2.out 0; have z1 := Ut.blk_frz HBK2.out 1; have z2 := Ut.blk_frz HBK2.out 2; have z3 := Ut.blk_frz HBK2.out 3; have z4 := Ut.blk_frz HBK2.out 4; simp only [tupV, tokV]))
              refine bodyPost_ret (v := .tuple #[tokV tk ta tb (mkS tt) tn, E]) (by simp [results, Tryz.results49, go_sem, tokV, c0, c1, c2, c3, c4]) rfl ⟨rfl, ?_⟩
              have hBB : Below w.heap.size w w2 := ((Below.refl _ _).alloc (Nat.le_refl _) _).trans (HB2.out.mono (by first | (simp; done) | (simp; omega)))
              (repeat (first | exact hBB | refine Below.alloc ?_ (by first | (simp; done) | (simp; omega)) _ | refine Below.setCell ?_ (by first | (simp; done) | (simp; omega)) _))
            · have q45 : ((s[k].toNat : Int) == 45) = false := by rw [byte_q s k hlt, decide_eq_false h45]
              have hdt : Ch.digB (at0 s.data.toList k) = true := by rcases hnum with g | g; exact absurd g h45; exact g
              rw [hdt, ← hbi] at HDG
              clear hdt
              have HC := Lib.hid (fun (W : World) (hW : Ut.Tabs W) => number_p s k W hs hlt hnum)
              rw [← HTK.out, HR.out] at HC
              simp only [tkV] at HC
              rw [HER.out] at HC
              clear HTK h34 hbi hnum h45
              have HC2 := Lib.hid (HC.out _ (HT.out.alloc (.cells #[.int .i64 0, .int .i64 0, .int .i64 0, .string ⟨#[]⟩, .int .i64 0] 60)))
              clear HC
              go_wp2_with (first | (go_at_call 57; refine (HBL.out _).mono ?_; rintro e w' ⟨rfl, rfl⟩) | (go_at_call 59; refine (HDG.out _).mono ?_; rintro e w' ⟨rfl, rfl⟩) | (go_at_call 60; refine HC2.out.mono ?_; rintro e w2 ⟨rfl, hb2⟩; have HB2 := Lib.hid hb2; have HBK2 := Lib.hid (keep5 hb2 rfl); clear hb2; have c0 := Ut.blk_cell HBK2.out 0; have c1 := Ut.blk_cell HBK2.out 1; have c2 := Ut.blk_cell HBK2.out 2; have c3 := Ut.blk_cell HBK2.out 3; have c4 := Ut.blk_cell HBK2.out 4; have z0 := Ut.blk_frz HBK2.out 0; have z1 := Ut.blk_frz HBK2.out 1; have z2 := Ut.blk_frz HBK2.out 2; have z3 := Ut.blk_frz HBK2.out 3; have z4 := Ut.blk_frz HBK2.out 4; simp only [tupV, tokV]))
              refine bodyPost_ret (v := .tuple #[tokV tk ta tb (mkS tt) tn, E]) (by simp [results, Tryz.results49, go_sem, tokV, c0, c1, c2, c3, c4]) rfl ⟨rfl, ?_⟩
              have hBB : Below w.heap.size w w2 := ((Below.refl _ _).alloc (Nat.le_refl _) _).trans (HB2.out.mono (by first | (simp; done) | (simp; omega)))
              (repeat (first | exact hBB | refine Below.alloc ?_ (by first | (simp; done) | (simp; omega)) _ | refine Below.setCell ?_ (by first | (simp; done) | (simp; omega)) _))
          · have h45 : at0 s.data.toList k ≠ 45 := fun g => hnum (.inl g)
            have q45 : ((s[k].toNat : Int) == 45) = false := by rw [byte_q s k hlt, decide_eq_false h45]
            have hdt : Ch.digB (at0 s.data.toList k) = false := by cases g : Ch.digB (at0 s.data.toList k) with | true => exact absurd (.inr g) hnum | false => rfl
            rw [hdt, ← hbi] at HDG
            have HLT := Lib.hid (fun W => Ch.let_c (s[k].toNat : Int) W)
            rw [hbi] at HLT
            cases hlet : Ch.letB (at0 s.data.toList k) with
            | true =>
              rw [hlet, ← hbi] at HLT
              have HC := Lib.hid (fun (W : World) (hW : Ut.Tabs W) => word_p s k W hs hlt hlet)
              rw [← HTK.out, HR.out] at HC
              simp only [tkV] at HC
              rw [HER.out] at HC
              clear HTK h34 hbi hnum h45 hdt hlet
              have HC2 := Lib.hid (HC.out _ (HT.out.alloc (.cells #[.int .i64 0, .int .i64 0, .int .i64 0, .string ⟨#[]⟩, .int .i64 0] 60)))
              clear HC
              go_wp2_with (first | (go_at_call 57; refine (HBL.out _).mono ?_; rintro e w' ⟨rfl, rfl⟩) | (go_at_call 59; refine (HDG.out _).mono ?_; rintro e w' ⟨rfl, rfl⟩) | (go_at_call 61; refine (HLT.out _).mono ?_; rintro e w' ⟨rfl, rfl⟩) | (go_at_call 62; refine HC2.out.mono ?_; rintro e w2 ⟨rfl, hb2⟩; have HB2 := Lib.hid hb2; have HBK2 := Lib.hid (keep5 hb2 rfl); clear hb2; have c0 := Ut.blk_cell HBK2.out 0; have c1 := Ut.blk_cell HBK2.out 1; have c2 := Ut.blk_cell HBK2.out 2; have c3 := Ut.blk_cell HBK2.out 3; have c4 := Ut.blk_cell HBK2.out 4; have z0 := Ut.blk_frz HBK2.out 0; have z1 := Ut.blk_frz HBK2.out 1; have z2 := Ut.blk_frz HBK2.out 2; have z3 := Ut.blk_frz HBK2.out 3; have z4 := Ut.blk_frz HBK2.out 4; simp only [tupV, tokV]))
              refine bodyPost_ret (v := .tuple #[tokV tk ta tb (mkS tt) tn, E]) (by simp [results, Tryz.results49, go_sem, tokV, c0, c1, c2, c3, c4]) rfl ⟨rfl, ?_⟩
              have hBB : Below w.heap.size w w2 := ((Below.refl _ _).alloc (Nat.le_refl _) _).trans (HB2.out.mono (by first | (simp; done) | (simp; omega)))
              (repeat (first | exact hBB | refine Below.alloc ?_ (by first | (simp; done) | (simp; omega)) _ | refine Below.setCell ?_ (by first | (simp; done) | (simp; omega)) _))
            | false =>
              rw [hlet, ← hbi] at HLT
              have HC := Lib.hid (fun (W : World) (hW : Ut.Tabs W) => sign_p s k W hs hlt h34 hnum hlet)
              rw [← HTK.out, HR.out] at HC
              simp only [tkV] at HC
              rw [HER.out] at HC
              clear HTK h34 hbi hnum h45 hdt hlet
              have HC2 := Lib.hid (HC.out _ (HT.out.alloc (.cells #[.int .i64 0, .int .i64 0, .int .i64 0, .string ⟨#[]⟩, .int .i64 0] 60)))
              clear HC
              go_wp2_with (first | (go_at_call 57; refine (HBL.out _).mono ?_; rintro e w' ⟨rfl, rfl⟩) | (go_at_call 59; refine (HDG.out _).mono ?_; rintro e w' ⟨rfl, rfl⟩) | (go_at_call 61; refine (HLT.out _).mono ?_; rintro e w' ⟨rfl, rfl⟩) | (go_at_call 63; refine HC2.out.mono ?_; rintro e w2 ⟨rfl, hb2⟩; have HB2 := Lib.hid hb2; have HBK2 := Lib.hid (keep5 hb2 rfl); clear hb2; have c0 := Ut.blk_cell HBK2.out 0; have c1 := Ut.blk_cell HBK2.out 1; have c2 := Ut.blk_cell HBK2.out 2; have c3 := Ut.blk_cell HBK2.out 3; have c4 := Ut.blk_cell HBK2.out 4; have z0 := Ut.blk_frz HBK2.out 0; have z1 := Ut.blk_frz HBK2.out 1; have z2 := Ut.blk_frz HBK2.out 2; have z3 := Ut.blk_frz HBK2.out 3; have z4 := Ut.blk_frz HBK2.out 4; simp only [tupV, tokV]))
              refine bodyPost_ret (v := .tuple #[tokV tk ta tb (mkS tt) tn, E]) (by simp [results, Tryz.results49, go_sem, tokV, c0, c1, c2, c3, c4]) rfl ⟨rfl, ?_⟩
              have hBB : Below w.heap.size w w2 := ((Below.refl _ _).alloc (Nat.le_refl _) _).trans (HB2.out.mono (by first | (simp; done) | (simp; omega)))
              (repeat (first | exact hBB | refine Below.alloc ?_ (by first | (simp; done) | (simp; omega)) _ | refine Below.setCell ?_ (by first | (simp; done) | (simp; omega)) _))
    · have hks : k = s.size := by omega
      have HE : Hid (endP blkB s.data.toList a = k) := by show endP blkB s.data.toList a = k; rw [← HA.out, endP_end (by rw [← hsl.out]; omega)]
      have HTK : Hid (tokA s.data.toList a = (zT, 6)) := tokA_end (by rw [HE.out, hks, hsl.out])
      have hR2 := HR.out
      rw [HTK.out] at hR2
      unfold zT at hR2
      simp only [Prod.mk.injEq, Tok.mk.injEq] at hR2
      obtain ⟨⟨rfl, rfl, rfl, rfl, rfl⟩, rfl⟩ := hR2
      rw [HE.out] at HER
      have qk : ((k : Int) == (s.size : Int)) = true := by simp; omega
      have hlt' : ¬ (k : Int) < (s.size : Int) := by omega
      clear HE HTK HA hks
      go_wp2
      refine bodyPost_ret (v := .tuple #[tokV 0 0 0 emS 0, fltV k 6]) (by simp [results, Tryz.results49, go_sem, tokV, fltV, emS]) rfl ⟨by rw [← HER.out]; rfl, ?_⟩
      (repeat (first | exact Below.refl _ _ | refine Below.alloc ?_ (by first | (simp; done) | (simp; omega)) _ | refine Below.setCell ?_ (by first | (simp; done) | (simp; omega)) _))
theorem next_c (s : ByteArray) (a : Nat) (w : World) (hT : Ut.Tabs w) (hs : s.size ≤ 1000) (ha : a ≤ s.size) :
    Calls Tryz.prog 49 #[.string s, .int .i64 (a : Int)] w fun e w' => e = tupV (tkV (tokA s.data.toList a).1) (erV (endP blkB s.data.toList a) (tokA s.data.toList a).2) ∧ Below w.heap.size w w' :=
  next_r s a _ _ _ _ _ _ _ w hT hs ha rfl rfl
set_option maxRecDepth 100000 in
theorem next_arg (s : ByteArray) (a : Int) (w : World) (hs : s.size ≤ maxLen) (h : a < 0 ∨ (s.size : Int) < a) :
    Calls Tryz.prog 49 #[.string s, .int .i64 a] w fun e w' => e = tupV (tkV zT) (.iface 124 (.agg #[.int .i64 a, .int .i64 1])) ∧ Below w.heap.size w w' := by
  unfold maxLen at hs
  by_cases h0 : a < 0
  · clear h
    go_enter Tryz.func49, Tryz.ntmps49
    go_wp2
    refine bodyPost_ret (v := .tuple #[tokV 0 0 0 emS 0, .iface 124 (.agg #[.int .i64 a, .int .i64 1])]) (by simp [results, Tryz.results49, go_sem, tokV, fltV, emS]) rfl ⟨rfl, ?_⟩
    (repeat (first | exact Below.refl _ _ | refine Below.alloc ?_ (by first | (simp; done) | (simp; omega)) _ | refine Below.setCell ?_ (by first | (simp; done) | (simp; omega)) _))
  · have h1 : (s.size : Int) < a := by omega
    clear h
    go_enter Tryz.func49, Tryz.ntmps49
    go_wp2
    refine bodyPost_ret (v := .tuple #[tokV 0 0 0 emS 0, .iface 124 (.agg #[.int .i64 a, .int .i64 1])]) (by simp [results, Tryz.results49, go_sem, tokV, fltV, emS]) rfl ⟨rfl, ?_⟩
    (repeat (first | exact Below.refl _ _ | refine Below.alloc ?_ (by first | (simp; done) | (simp; omega)) _ | refine Below.setCell ?_ (by first | (simp; done) | (simp; omega)) _))
end Go.Proofs.YtpgllcdcpdeicaaGreatDoor.Jt
