/- Contract of the document's own Parse: the time whose text it is, or why there is none; for every text of at most forty bytes. -/
import Derived.Test.YtljcbnjidjcagaaParses
import Derived.Lib.SmallJoins
import Derived.StillTailTactics
namespace Go.Proofs.Ytljcbnjidjcagaa
open Go.RowKit
set_option linter.unusedSimpArgs false
set_option linter.unusedVariables false

/-- the signs between the digits are right -/
def sepB (l : List UInt8) : Bool := decide (l.getD 4 0 = 45 ∧ l.getD 7 0 = 45 ∧ l.getD 10 0 = 84 ∧ l.getD 13 0 = 58 ∧ l.getD 16 0 = 58 ∧ l.getD 19 0 = 90)

theorem byte_ne (s : ByteArray) (k : Nat) (h : k < s.size) (c : UInt8) (z : Int) (hz : z = (c.toNat : Int)) : ((s[k].toNat : Int) != z) = !decide (s.data.toList.getD k 0 = c) := by
  subst hz
  rw [getD_at s k h, bne]
  congr 1
  rw [Bool.eq_iff_iff]
  simp only [beq_iff_eq, decide_eq_true_eq]
  constructor
  · intro e; apply UInt8.toNat_inj.1; omega
  · intro e; rw [e]

def aL : List Nat := [0, 5, 8, 11, 14, 17]
def bL : List Nat := [4, 7, 10, 13, 16, 19]
def aK (k : Nat) : Nat := aL.getD k 0
def bK (k : Nat) : Nat := bL.getD k 0
def pairsV : Array Value := #[.int .i64 0, .int .i64 4, .int .i64 5, .int .i64 7, .int .i64 8, .int .i64 10, .int .i64 11, .int .i64 13, .int .i64 14, .int .i64 16, .int .i64 17, .int .i64 19]
theorem pairs_at (k : Nat) (hk : k < 6) : pairsV[k * 2]? = some (.int .i64 (aK k : Int)) ∧ pairsV[k * 2 + 1]? = some (.int .i64 (bK k : Int)) := by
  match k, hk with
  | 0, _ | 1, _ | 2, _ | 3, _ | 4, _ | 5, _ => exact ⟨rfl, rfl⟩
theorem ab_bd (k : Nat) (hk : k < 6) : aK k ≤ bK k ∧ bK k ≤ 19 ∧ bK k - aK k ≤ 4 := by
  match k, hk with
  | 0, _ | 1, _ | 2, _ | 3, _ | 4, _ | 5, _ => decide
def pieceL (l : List UInt8) (k : Nat) : List UInt8 := (l.drop (aK k)).take (bK k - aK k)
def valsV (l : List UInt8) (k : Nat) : List Value := (List.range k).map (fun j => .int .i64 (valL (pieceL l j)))
theorem valsV_len (l : List UInt8) (k : Nat) : (valsV l k).length = k := by simp [valsV]
theorem valsV_succ (l : List UInt8) (k : Nat) : valsV l (k + 1) = valsV l k ++ [.int .i64 (valL (pieceL l k))] := by unfold valsV; rw [List.range_succ, List.map_append]; rfl
theorem info3 : (Try.prog.info? 3).map (fun i => (i.zero, i.size, i.bytes)) = some (some (.int .i64 0), 1, 8) := by kernel_rfl
def RRel (l : List UInt8) (W1 : World) (k : Nat) (v : Value) (wr : World) : Prop :=
  (∀ j, j < k → (pieceL l j).all isD = true) ∧ wr.ownsRow W1.heap.size 3 1 v k (valsV l k) ∧ Below W1.heap.size W1 wr ∧ W1.heap.size ≤ wr.heap.size

theorem piece_get {l : List UInt8} (hl : l.length = 20) {i : Nat} (hi : i < 6) (h : (pieceL l i).all isD = true) (t : Nat) (ht : t < bK i - aK i) : isD (l.getD (aK i + t) 0) = true := by
  obtain ⟨h1, h2, h3⟩ := ab_bd i hi
  have hlen : (pieceL l i).length = bK i - aK i := by unfold pieceL; rw [List.length_take, List.length_drop]; omega
  have := List.all_eq_true.1 h ((pieceL l i)[t]'(by omega)) (List.getElem_mem _)
  unfold pieceL at this
  rw [List.getElem_take, List.getElem_drop] at this
  rw [List.getD, List.getElem?_eq_getElem (by omega)]
  exact this
theorem form_parts (l : List UInt8) (hl : l.length = 20) : formB l = true ↔ (sepB l = true ∧ ∀ i, i < 6 → (pieceL l i).all isD = true) := by
  constructor
  · intro h
    have ho := ((form_iff l).1 h).2
    refine ⟨decide_eq_true ⟨of_decide_eq_true (ho 4 (by decide)), of_decide_eq_true (ho 7 (by decide)), of_decide_eq_true (ho 10 (by decide)), of_decide_eq_true (ho 13 (by decide)), of_decide_eq_true (ho 16 (by decide)), of_decide_eq_true (ho 19 (by decide))⟩, fun i hi => ?_⟩
    have : i = 0 ∨ i = 1 ∨ i = 2 ∨ i = 3 ∨ i = 4 ∨ i = 5 := by omega
    rcases this with rfl | rfl | rfl | rfl | rfl | rfl
    · exact (piece_d h 0 4 (by decide) (by decide) (by decide)).1
    · exact (piece_d h 5 7 (by decide) (by decide) (by decide)).1
    · exact (piece_d h 8 10 (by decide) (by decide) (by decide)).1
    · exact (piece_d h 11 13 (by decide) (by decide) (by decide)).1
    · exact (piece_d h 14 16 (by decide) (by decide) (by decide)).1
    · exact (piece_d h 17 19 (by decide) (by decide) (by decide)).1
  · rintro ⟨hs, hp⟩
    have hs := of_decide_eq_true hs
    have pg : ∀ i t, i < 6 → t < bK i - aK i → isD (l.getD (aK i + t) 0) = true := fun i t hi ht => piece_get hl hi (hp i hi) t ht
    refine (form_iff l).2 ⟨hl, fun j hj => ?_⟩
    have : j = 0 ∨ j = 1 ∨ j = 2 ∨ j = 3 ∨ j = 4 ∨ j = 5 ∨ j = 6 ∨ j = 7 ∨ j = 8 ∨ j = 9 ∨ j = 10 ∨ j = 11 ∨ j = 12 ∨ j = 13 ∨ j = 14 ∨ j = 15 ∨ j = 16 ∨ j = 17 ∨ j = 18 ∨ j = 19 := by omega
    rcases this with rfl | rfl | rfl | rfl | rfl | rfl | rfl | rfl | rfl | rfl | rfl | rfl | rfl | rfl | rfl | rfl | rfl | rfl | rfl | rfl
    · exact pg 0 0 (by decide) (by decide)
    · exact pg 0 1 (by decide) (by decide)
    · exact pg 0 2 (by decide) (by decide)
    · exact pg 0 3 (by decide) (by decide)
    · exact decide_eq_true hs.1
    · exact pg 1 0 (by decide) (by decide)
    · exact pg 1 1 (by decide) (by decide)
    · exact decide_eq_true hs.2.1
    · exact pg 2 0 (by decide) (by decide)
    · exact pg 2 1 (by decide) (by decide)
    · exact decide_eq_true hs.2.2.1
    · exact pg 3 0 (by decide) (by decide)
    · exact pg 3 1 (by decide) (by decide)
    · exact decide_eq_true hs.2.2.2.1
    · exact pg 4 0 (by decide) (by decide)
    · exact pg 4 1 (by decide) (by decide)
    · exact decide_eq_true hs.2.2.2.2.1
    · exact pg 5 0 (by decide) (by decide)
    · exact pg 5 1 (by decide) (by decide)
    · exact decide_eq_true hs.2.2.2.2.2

theorem par_no {l : List UInt8} (h : formB l = false) : parT l = 0 ∧ parE l = 3 := by
  have e : tmB l = false := by unfold tmB; rw [h]; rfl
  exact ⟨by unfold parT; rw [e]; rfl, by unfold parE; rw [e]; rfl⟩
theorem val_yes {l : List UInt8} {i : Nat} (h : (pieceL l i).all isD = true) : valL (pieceL l i) = fld l (aK i) (bK i) := by unfold valL; rw [if_pos h]; rfl

set_option maxRecDepth 100000 in
set_option maxHeartbeats 4000000 in
theorem parseR_x (s : ByteArray) (w : World) (hs : s.size = 20) (hf : sepB s.data.toList = true) : Calls Try.prog 16 #[.string s] w fun e w' => e = .returned (.tuple #[.int .i64 (parT s.data.toList), .int .i64 (parE s.data.toList)]) ∧ Below w.heap.size w w' := by
  obtain ⟨f1, f2, f3, f4, f5, f6⟩ := of_decide_eq_true hf
  have k1 : 4 < s.size := by omega
  have g1 := byte_ne s 4 k1 45 45 rfl
  have k2 : 7 < s.size := by omega
  have g2 := byte_ne s 7 k2 45 45 rfl
  have k3 : 10 < s.size := by omega
  have g3 := byte_ne s 10 k3 84 84 rfl
  have k4 : 13 < s.size := by omega
  have g4 := byte_ne s 13 k4 58 58 rfl
  have k5 : 16 < s.size := by omega
  have g5 := byte_ne s 16 k5 58 58 rfl
  have k6 : 19 < s.size := by omega
  have g6 := byte_ne s 19 k6 90 90 rfl
  rw [f1] at g1; rw [f2] at g2; rw [f3] at g3; rw [f4] at g4; rw [f5] at g5; rw [f6] at g6
  simp only [decide_true, Bool.not_true] at g1 g2 g3 g4 g5 g6
  have hlen : Hid (s.data.toList.length = 20) := by show s.data.toList.length = 20; rw [← Lib.size_eq]; exact hs
  have hs20 : 20 ≤ s.size := by omega
  have hs21 : s.size ≤ 20 := by omega
  have h20 : ((s.size : Int) != 20) = false := by simp [hs]
  have HSEP := Lib.hid hf
  clear f1 f2 f3 f4 f5 f6 hf hs
  go_enter Try.func16, Try.ntmps16
  go_wp2
  have HC : Hid (∀ k, k < 6 → (w.alloc (.cells pairsV 50)).cell? ⟨w.heap.size, k * 2, none⟩ = some (.int .i64 (aK k : Int)) ∧ (w.alloc (.cells pairsV 50)).cell? ⟨w.heap.size, k * 2 + 1, none⟩ = some (.int .i64 (bK k : Int))) := fun k hk => by
    rw [World.cell?_alloc_at _ _ _ _ rfl, World.cell?_alloc_at _ _ _ _ rfl]
    exact pairs_at k hk
  have HBW := Lib.hid ((Below.refl w.heap.size w).alloc (Nat.le_refl _) (.cells pairsV 50))
  have hgw : w.heap.size < (w.alloc (.cells pairsV 50)).heap.size := by simp
  unfold pairsV at HC HBW hgw
  revert HC HBW hgw
  generalize w.alloc (.cells #[.int .i64 0, .int .i64 4, .int .i64 5, .int .i64 7, .int .i64 8, .int .i64 10, .int .i64 11, .int .i64 13, .int .i64 14, .int .i64 16, .int .i64 17, .int .i64 19] 50) = W1
  intro HC HBW hgw
  obtain ⟨i0, hi, hz0, hz1, hz2⟩ := info_parts info3
  have HI := Lib.hid hi
  have HZ := Lib.hid (And.intro hz0 (And.intro hz1 hz2))
  clear hi hz0 hz1 hz2
  go_loopw [4, 51] (fun v i wr => ∃ k : Nat, k ≤ 6 ∧ i = .int .i64 k ∧ RRel s.data.toList W1 k v wr) (fun _ i _ => 6 - (intOf i).toNat)
  case atStart => exact ⟨0, by omega, rfl, fun j hj => by omega, World.ownsRow_nil _ _ _ _, Below.refl _ _, Nat.le_refl _⟩
  case round =>
    obtain ⟨k, hk, rfl, hal, hO, hB, hz⟩ := hrel
    have HA := Lib.hid hal
    have HO := Lib.hid hO
    have HB := Lib.hid hB
    clear hal hO hB
    by_cases hlt : k < 6
    · have hc0 : wr.cell? ⟨w.heap.size, k * 2, none⟩ = some (.int .i64 (aK k : Int)) := (HB.out.cell (p := ⟨w.heap.size, k * 2, none⟩) hgw).trans (HC.out k hlt).1
      have hc1 : wr.cell? ⟨w.heap.size, k * 2 + 1, none⟩ = some (.int .i64 (bK k : Int)) := (HB.out.cell (p := ⟨w.heap.size, k * 2 + 1, none⟩) hgw).trans (HC.out k hlt).2
      obtain ⟨ab1, ab2, ab3⟩ := ab_bd k hlt
      have HV : Hid (∀ W, Calls Try.prog 25 #[.string (s.extract (aK k) (bK k))] W fun e w' => e = .returned (.int .i64 (valL (pieceL s.data.toList k))) ∧ W = w') := fun W => by
        have := value_r (s.extract (aK k) (bK k)) W (by rw [ByteArray.size_extract]; omega)
        rw [Lib.extract_data] at this
        exact this
      cases hd : (pieceL s.data.toList k).all isD with
      | false =>
        have hn : Hid (formB s.data.toList = false) := by
          show formB s.data.toList = false
          cases e : formB s.data.toList with
          | false => rfl
          | true =>
            have := ((form_parts _ hlen.out).1 e).2 k hlt
            rw [hd] at this
            cases this
        have HV2 : Hid (valL (pieceL s.data.toList k) = -1) := by show valL (pieceL s.data.toList k) = -1; unfold valL; rw [hd]; rfl
        rw [HV2.out] at HV
        clear hd HV2
        go_wp2_with (go_at_call 25; refine (HV.out _).mono ?_; rintro e w' ⟨rfl, rfl⟩)
        go_ret2
        exact ⟨ret2_ii (par_no hn.out).1.symm (par_no hn.out).2.symm, HBW.out.trans ((HB.out.alloc hz _).mono (Nat.le_of_lt hgw))⟩
      | true =>
        have HS := Lib.hid (valsV_succ s.data.toList k)
        have HD := Lib.hid hd
        obtain ⟨x0, x1⟩ : 0 ≤ valL (pieceL s.data.toList k) ∧ valL (pieceL s.data.toList k) ≤ 10000 := by
          unfold valL
          rw [if_pos hd]
          have := numL_bd _ hd
          have hl2 : (pieceL s.data.toList k).length ≤ 4 := by unfold pieceL; rw [List.length_take]; omega
          refine ⟨this.1, Int.le_of_lt (Int.lt_of_lt_of_le this.2 ?_)⟩
          generalize (pieceL s.data.toList k).length = n at hl2
          match n, hl2 with
          | 0, _ | 1, _ | 2, _ | 3, _ | 4, _ => decide
        clear hd
        revert HV HS x0 x1
        generalize valL (pieceL s.data.toList k) = x
        intro HV HS x0 x1
        have hO := HO.out
        go_wp2_with (first
          | (go_at_call 25; refine (HV.out _).mono ?_; rintro e w' ⟨rfl, rfl⟩)
          | (at_builtin; refine wpList_append_own _ rfl _ _ 49 rfl W1.heap.size 3 i0 (.int .i64 0) 1 8 Try.underlying49 HI.out HZ.out.1 HZ.out.2.1 HZ.out.2.2 rfl (by decide) _ _ _ rfl ((hO.alloc _).alloc _) ⟨wr.heap.size + 1, 0, none⟩ 1 1 [.int .i64 x] rfl rfl ?c1 ?c2 ?c3 ?c4 ?c5 ?_))
        case c1 =>
          intro j u hj
          match j, hj with
          | 0, hj => simp at hj; subst hj; simp [Addr.add]
        case c2 => intro u hu; simp at hu; subst hu; rfl
        case c3 => unfold maxLen; omega
        case c4 => omega
        case c5 => simp; omega
        · intro v' w1 hown' hgrow _
          have HR : Hid (RRel s.data.toList W1 (k + 1) v' w1) := by
            refine ⟨fun j hj => ?_, ?_, HB.out.trans ((((Below.refl _ _).alloc hz _).alloc (by simp; omega) _).grown hgrow (by simp; omega) (fun q hq => (HO.out.lt q hq).1)), Nat.le_trans (Nat.le_trans hz (by simp; omega)) hgrow.size⟩
            · by_cases e : j = k
              · subst e; exact HD.out
              · exact HA.out j (by omega)
            · rw [HS.out]
              exact hown'
          clear hown' hgrow hO
          go_wp2
          go_roundw
          case rel => exact ⟨k + 1, by omega, by go_num, HR.out⟩
          case measure => simp [intOf]; omega
    · obtain rfl : k = 6 := by omega
      have hf : formB s.data.toList = true := (form_parts _ hlen.out).2 ⟨HSEP.out, HA.out⟩
      have hO := HO.out
      obtain ⟨g, cap, rfl⟩ := Joins.ownsRow_form hO (by decide)
      have hgl : g < wr.heap.size := (hO.lt g rfl).2
      have HBB : Hid (Below w.heap.size w wr) := HBW.out.trans (HB.out.mono (Nat.le_of_lt hgw))
      have c0 : wr.cell? ⟨g, 0, none⟩ = some (.int .i64 (valL (pieceL s.data.toList 0))) := hO.cellAt 0 (by decide)
      rw [show valL (pieceL s.data.toList 0) = fld s.data.toList 0 4 from val_yes (HA.out 0 (by decide))] at c0
      have c1 : wr.cell? ⟨g, 1, none⟩ = some (.int .i64 (valL (pieceL s.data.toList 1))) := hO.cellAt 1 (by decide)
      rw [show valL (pieceL s.data.toList 1) = fld s.data.toList 5 7 from val_yes (HA.out 1 (by decide))] at c1
      have c2 : wr.cell? ⟨g, 2, none⟩ = some (.int .i64 (valL (pieceL s.data.toList 2))) := hO.cellAt 2 (by decide)
      rw [show valL (pieceL s.data.toList 2) = fld s.data.toList 8 10 from val_yes (HA.out 2 (by decide))] at c2
      have c3 : wr.cell? ⟨g, 3, none⟩ = some (.int .i64 (valL (pieceL s.data.toList 3))) := hO.cellAt 3 (by decide)
      rw [show valL (pieceL s.data.toList 3) = fld s.data.toList 11 13 from val_yes (HA.out 3 (by decide))] at c3
      have c4 : wr.cell? ⟨g, 4, none⟩ = some (.int .i64 (valL (pieceL s.data.toList 4))) := hO.cellAt 4 (by decide)
      rw [show valL (pieceL s.data.toList 4) = fld s.data.toList 14 16 from val_yes (HA.out 4 (by decide))] at c4
      have c5 : wr.cell? ⟨g, 5, none⟩ = some (.int .i64 (valL (pieceL s.data.toList 5))) := hO.cellAt 5 (by decide)
      rw [show valL (pieceL s.data.toList 5) = fld s.data.toList 17 19 from val_yes (HA.out 5 (by decide))] at c5
      have p1 := piece_d hf 0 4 (by decide) (by decide) (by decide)
      have p2 := piece_d hf 5 7 (by decide) (by decide) (by decide)
      have p3 := piece_d hf 8 10 (by decide) (by decide) (by decide)
      have p4 := piece_d hf 11 13 (by decide) (by decide) (by decide)
      have p5 := piece_d hf 14 16 (by decide) (by decide) (by decide)
      have p6 := piece_d hf 17 19 (by decide) (by decide) (by decide)
      obtain ⟨y0, y1⟩ := fld_bd4 p1
      obtain ⟨m0, m1⟩ := fld_bd2 rfl p2
      obtain ⟨d0, d1⟩ := fld_bd2 rfl p3
      obtain ⟨a0, a1⟩ := fld_bd2 rfl p4
      obtain ⟨b0, b1⟩ := fld_bd2 rfl p5
      obtain ⟨q0, q1⟩ := fld_bd2 rfl p6
      have hT : Hid (parT s.data.toList = if tmB s.data.toList = true ∧ tmV s.data.toList ≤ 137438953472 then tmV s.data.toList else 0) := rfl
      have hE : Hid (parE s.data.toList = if tmB s.data.toList = true then (if tmV s.data.toList ≤ 137438953472 then 0 else 5) else 3) := rfl
      have hBB : Hid (tmB s.data.toList = (vldB (fld s.data.toList 0 4) (fld s.data.toList 5 7) (fld s.data.toList 8 10) && decide (fld s.data.toList 11 13 ≤ 23 ∧ fld s.data.toList 14 16 ≤ 59 ∧ fld s.data.toList 17 19 ≤ 59))) := by
        show tmB s.data.toList = _
        unfold tmB; rw [hf]; rfl
      have hVV : Hid (tmV s.data.toList = dayN (fld s.data.toList 0 4) (fld s.data.toList 5 7) (fld s.data.toList 8 10) * 86400 + (fld s.data.toList 11 13 * 3600 + fld s.data.toList 14 16 * 60 + fld s.data.toList 17 19)) := rfl
      clear p1 p2 p3 p4 p5 p6 hf hO HO HA HC HSEP hlen HI HZ
      revert c0 c1 c2 c3 c4 c5 y0 y1 m0 m1 d0 d1 a0 a1 b0 b1 q0 q1 hT hE hBB hVV
      generalize tmB s.data.toList = TB
      generalize tmV s.data.toList = TV
      generalize fld s.data.toList 0 4 = y
      generalize fld s.data.toList 5 7 = m
      generalize fld s.data.toList 8 10 = d
      generalize fld s.data.toList 11 13 = a
      generalize fld s.data.toList 14 16 = b
      generalize fld s.data.toList 17 19 = c
      intro c0 c1 c2 c3 c4 c5 y0 y1 m0 m1 d0 d1 a0 a1 b0 b1 q0 q1 hT hE hBB hVV
      cases hv : vldB y m d with
      | false =>
        have HD := Lib.hid (fun W => daysR_no y m d W hv)
        have e1 : Hid (TB = false) := by show TB = false; rw [hBB.out, hv]; rfl
        clear hv
        go_wp2
        go_still_tail 9, (by kernel_rfl)
        change wpList _ _ _ _ _ wr.drew
        have HW2 : Hid (Below w.heap.size w wr.drew) := HBB.out.drew
        have e3 : wr.drew.cell? ⟨g, 3, none⟩ = some (.int .i64 a) := c3
        have e4 : wr.drew.cell? ⟨g, 4, none⟩ = some (.int .i64 b) := c4
        have e5 : wr.drew.cell? ⟨g, 5, none⟩ = some (.int .i64 c) := c5
        have hgl2 : g < wr.drew.heap.size := hgl
        clear c0 c1 c2 c3 c4 c5 hgl HBB
        revert HW2 e3 e4 e5 hgl2
        generalize wr.drew = w2
        intro HW2 e3 e4 e5 hgl2
        have E3 := Lib.hid e3
        have E4 := Lib.hid e4
        have E5 := Lib.hid e5
        clear e3 e4 e5
        go_wp2_with fail
        refine (HD.out _).mono ?_
        rintro e w3 ⟨rfl, hb3⟩
        have HB3 := Lib.hid hb3
        have HW3 : Hid (Below w.heap.size w w3) := HW2.out.trans (hb3.mono HW2.out.size)
        have c3 : w3.cell? ⟨g, 3, none⟩ = some (.int .i64 a) := (hb3.cell (p := ⟨g, 3, none⟩) hgl2).trans E3.out
        have c4 : w3.cell? ⟨g, 4, none⟩ = some (.int .i64 b) := (hb3.cell (p := ⟨g, 4, none⟩) hgl2).trans E4.out
        have c5 : w3.cell? ⟨g, 5, none⟩ = some (.int .i64 c) := (hb3.cell (p := ⟨g, 5, none⟩) hgl2).trans E5.out
        clear hb3 E3 E4 E5
        go_wp2
        go_ret2
        exact ⟨ret2_ii (by rw [hT.out, e1.out]; rfl) (by rw [hE.out, e1.out]; rfl), HW3.out⟩
      | true =>
        obtain ⟨D0, D1⟩ := day_bd hv
        have HD := Lib.hid (fun W => daysR_yes y m d W hv)
        rw [hv, Bool.true_and] at hBB
        clear hv
        revert HD D0 D1 hVV
        generalize dayN y m d = D
        intro hVV D0 D1 HD
        by_cases ha : a ≤ 23
        · by_cases hb' : b ≤ 59
          · by_cases hc : c ≤ 59
            · have e1 : Hid (TB = true) := by show TB = true; rw [hBB.out]; exact decide_eq_true ⟨ha, hb', hc⟩
              clear hBB
              by_cases hbig : D * 86400 + (a * 3600 + b * 60 + c) ≤ 137438953472
              · have e2 : Hid (TV ≤ 137438953472) := by show TV ≤ 137438953472; rw [hVV.out]; exact hbig
                have hbig2 : D * 86400 + a * 3600 + b * 60 + c ≤ 137438953472 := by omega
                have HEQ : Hid (D * 86400 + a * 3600 + b * 60 + c = TV) := by show _ = TV; rw [hVV.out]; omega
                go_wp2
                go_still_tail 9, (by kernel_rfl)
                change wpList _ _ _ _ _ wr.drew
                have HW2 : Hid (Below w.heap.size w wr.drew) := HBB.out.drew
                have e3 : wr.drew.cell? ⟨g, 3, none⟩ = some (.int .i64 a) := c3
                have e4 : wr.drew.cell? ⟨g, 4, none⟩ = some (.int .i64 b) := c4
                have e5 : wr.drew.cell? ⟨g, 5, none⟩ = some (.int .i64 c) := c5
                have hgl2 : g < wr.drew.heap.size := hgl
                clear c0 c1 c2 c3 c4 c5 hgl HBB
                revert HW2 e3 e4 e5 hgl2
                generalize wr.drew = w2
                intro HW2 e3 e4 e5 hgl2
                have E3 := Lib.hid e3
                have E4 := Lib.hid e4
                have E5 := Lib.hid e5
                clear e3 e4 e5
                go_wp2_with fail
                refine (HD.out _).mono ?_
                rintro e w3 ⟨rfl, hb3⟩
                have HB3 := Lib.hid hb3
                have HW3 : Hid (Below w.heap.size w w3) := HW2.out.trans (hb3.mono HW2.out.size)
                have c3 : w3.cell? ⟨g, 3, none⟩ = some (.int .i64 a) := (hb3.cell (p := ⟨g, 3, none⟩) hgl2).trans E3.out
                have c4 : w3.cell? ⟨g, 4, none⟩ = some (.int .i64 b) := (hb3.cell (p := ⟨g, 4, none⟩) hgl2).trans E4.out
                have c5 : w3.cell? ⟨g, 5, none⟩ = some (.int .i64 c) := (hb3.cell (p := ⟨g, 5, none⟩) hgl2).trans E5.out
                clear hb3 E3 E4 E5
                go_wp2
                go_quiet (fail)
                go_wp2
                go_ret2
                exact ⟨ret2_ii (by rw [hT.out, e1.out, if_pos ⟨rfl, e2.out⟩, ← HEQ.out]) (by rw [hE.out, e1.out, if_pos rfl, if_pos e2.out]), below_drewN HW3.out _⟩
              · have e2 : Hid (137438953472 < TV) := by show 137438953472 < TV; rw [hVV.out]; omega
                have hbig2 : 137438953472 < D * 86400 + a * 3600 + b * 60 + c := by omega
                clear hbig
                go_wp2
                go_still_tail 9, (by kernel_rfl)
                change wpList _ _ _ _ _ wr.drew
                have HW2 : Hid (Below w.heap.size w wr.drew) := HBB.out.drew
                have e3 : wr.drew.cell? ⟨g, 3, none⟩ = some (.int .i64 a) := c3
                have e4 : wr.drew.cell? ⟨g, 4, none⟩ = some (.int .i64 b) := c4
                have e5 : wr.drew.cell? ⟨g, 5, none⟩ = some (.int .i64 c) := c5
                have hgl2 : g < wr.drew.heap.size := hgl
                clear c0 c1 c2 c3 c4 c5 hgl HBB
                revert HW2 e3 e4 e5 hgl2
                generalize wr.drew = w2
                intro HW2 e3 e4 e5 hgl2
                have E3 := Lib.hid e3
                have E4 := Lib.hid e4
                have E5 := Lib.hid e5
                clear e3 e4 e5
                go_wp2_with fail
                refine (HD.out _).mono ?_
                rintro e w3 ⟨rfl, hb3⟩
                have HB3 := Lib.hid hb3
                have HW3 : Hid (Below w.heap.size w w3) := HW2.out.trans (hb3.mono HW2.out.size)
                have c3 : w3.cell? ⟨g, 3, none⟩ = some (.int .i64 a) := (hb3.cell (p := ⟨g, 3, none⟩) hgl2).trans E3.out
                have c4 : w3.cell? ⟨g, 4, none⟩ = some (.int .i64 b) := (hb3.cell (p := ⟨g, 4, none⟩) hgl2).trans E4.out
                have c5 : w3.cell? ⟨g, 5, none⟩ = some (.int .i64 c) := (hb3.cell (p := ⟨g, 5, none⟩) hgl2).trans E5.out
                clear hb3 E3 E4 E5
                go_wp2
                go_quiet (fail)
                go_wp2
                go_ret2
                exact ⟨ret2_ii (by rw [hT.out, if_neg (fun h => by have := e2.out; omega)]) (by rw [hE.out, e1.out, if_pos rfl, if_neg (by have := e2.out; omega)]), below_drewN HW3.out _⟩
            · have e1 : Hid (TB = false) := by show TB = false; rw [hBB.out]; exact decide_eq_false (fun h => hc h.2.2)
              have hc2 : 59 < c := by omega
              clear hBB hc
              go_wp2
              go_still_tail 9, (by kernel_rfl)
              change wpList _ _ _ _ _ wr.drew
              have HW2 : Hid (Below w.heap.size w wr.drew) := HBB.out.drew
              have e3 : wr.drew.cell? ⟨g, 3, none⟩ = some (.int .i64 a) := c3
              have e4 : wr.drew.cell? ⟨g, 4, none⟩ = some (.int .i64 b) := c4
              have e5 : wr.drew.cell? ⟨g, 5, none⟩ = some (.int .i64 c) := c5
              have hgl2 : g < wr.drew.heap.size := hgl
              clear c0 c1 c2 c3 c4 c5 hgl HBB
              revert HW2 e3 e4 e5 hgl2
              generalize wr.drew = w2
              intro HW2 e3 e4 e5 hgl2
              have E3 := Lib.hid e3
              have E4 := Lib.hid e4
              have E5 := Lib.hid e5
              clear e3 e4 e5
              go_wp2_with fail
              refine (HD.out _).mono ?_
              rintro e w3 ⟨rfl, hb3⟩
              have HB3 := Lib.hid hb3
              have HW3 : Hid (Below w.heap.size w w3) := HW2.out.trans (hb3.mono HW2.out.size)
              have c3 : w3.cell? ⟨g, 3, none⟩ = some (.int .i64 a) := (hb3.cell (p := ⟨g, 3, none⟩) hgl2).trans E3.out
              have c4 : w3.cell? ⟨g, 4, none⟩ = some (.int .i64 b) := (hb3.cell (p := ⟨g, 4, none⟩) hgl2).trans E4.out
              have c5 : w3.cell? ⟨g, 5, none⟩ = some (.int .i64 c) := (hb3.cell (p := ⟨g, 5, none⟩) hgl2).trans E5.out
              clear hb3 E3 E4 E5
              go_wp2
              go_ret2
              exact ⟨ret2_ii (by rw [hT.out, e1.out]; rfl) (by rw [hE.out, e1.out]; rfl), HW3.out⟩
          · have e1 : Hid (TB = false) := by show TB = false; rw [hBB.out]; exact decide_eq_false (fun h => hb' h.2.1)
            have hb2 : 59 < b := by omega
            clear hBB hb'
            go_wp2
            go_still_tail 9, (by kernel_rfl)
            change wpList _ _ _ _ _ wr.drew
            have HW2 : Hid (Below w.heap.size w wr.drew) := HBB.out.drew
            have e3 : wr.drew.cell? ⟨g, 3, none⟩ = some (.int .i64 a) := c3
            have e4 : wr.drew.cell? ⟨g, 4, none⟩ = some (.int .i64 b) := c4
            have e5 : wr.drew.cell? ⟨g, 5, none⟩ = some (.int .i64 c) := c5
            have hgl2 : g < wr.drew.heap.size := hgl
            clear c0 c1 c2 c3 c4 c5 hgl HBB
            revert HW2 e3 e4 e5 hgl2
            generalize wr.drew = w2
            intro HW2 e3 e4 e5 hgl2
            have E3 := Lib.hid e3
            have E4 := Lib.hid e4
            have E5 := Lib.hid e5
            clear e3 e4 e5
            go_wp2_with fail
            refine (HD.out _).mono ?_
            rintro e w3 ⟨rfl, hb3⟩
            have HB3 := Lib.hid hb3
            have HW3 : Hid (Below w.heap.size w w3) := HW2.out.trans (hb3.mono HW2.out.size)
            have c3 : w3.cell? ⟨g, 3, none⟩ = some (.int .i64 a) := (hb3.cell (p := ⟨g, 3, none⟩) hgl2).trans E3.out
            have c4 : w3.cell? ⟨g, 4, none⟩ = some (.int .i64 b) := (hb3.cell (p := ⟨g, 4, none⟩) hgl2).trans E4.out
            have c5 : w3.cell? ⟨g, 5, none⟩ = some (.int .i64 c) := (hb3.cell (p := ⟨g, 5, none⟩) hgl2).trans E5.out
            clear hb3 E3 E4 E5
            go_wp2
            go_ret2
            exact ⟨ret2_ii (by rw [hT.out, e1.out]; rfl) (by rw [hE.out, e1.out]; rfl), HW3.out⟩
        · have e1 : Hid (TB = false) := by show TB = false; rw [hBB.out]; exact decide_eq_false (fun h => ha h.1)
          have ha2 : 23 < a := by omega
          clear hBB ha
          go_wp2
          go_still_tail 9, (by kernel_rfl)
          change wpList _ _ _ _ _ wr.drew
          have HW2 : Hid (Below w.heap.size w wr.drew) := HBB.out.drew
          have e3 : wr.drew.cell? ⟨g, 3, none⟩ = some (.int .i64 a) := c3
          have e4 : wr.drew.cell? ⟨g, 4, none⟩ = some (.int .i64 b) := c4
          have e5 : wr.drew.cell? ⟨g, 5, none⟩ = some (.int .i64 c) := c5
          have hgl2 : g < wr.drew.heap.size := hgl
          clear c0 c1 c2 c3 c4 c5 hgl HBB
          revert HW2 e3 e4 e5 hgl2
          generalize wr.drew = w2
          intro HW2 e3 e4 e5 hgl2
          have E3 := Lib.hid e3
          have E4 := Lib.hid e4
          have E5 := Lib.hid e5
          clear e3 e4 e5
          go_wp2_with fail
          refine (HD.out _).mono ?_
          rintro e w3 ⟨rfl, hb3⟩
          have HB3 := Lib.hid hb3
          have HW3 : Hid (Below w.heap.size w w3) := HW2.out.trans (hb3.mono HW2.out.size)
          have c3 : w3.cell? ⟨g, 3, none⟩ = some (.int .i64 a) := (hb3.cell (p := ⟨g, 3, none⟩) hgl2).trans E3.out
          have c4 : w3.cell? ⟨g, 4, none⟩ = some (.int .i64 b) := (hb3.cell (p := ⟨g, 4, none⟩) hgl2).trans E4.out
          have c5 : w3.cell? ⟨g, 5, none⟩ = some (.int .i64 c) := (hb3.cell (p := ⟨g, 5, none⟩) hgl2).trans E5.out
          clear hb3 E3 E4 E5
          go_wp2
          go_ret2
          exact ⟨ret2_ii (by rw [hT.out, e1.out]; rfl) (by rw [hE.out, e1.out]; rfl), HW3.out⟩

theorem parseR_len (s : ByteArray) (w : World) (hs : ¬ s.size = 20) : Calls Try.prog 16 #[.string s] w fun e w' => e = .returned (.tuple #[.int .i64 0, .int .i64 3]) ∧ Below w.heap.size w w' := by
  have h20 : ((s.size : Int) != 20) = true := by simp; omega
  clear hs
  go_enter Try.func16, Try.ntmps16
  go_wp2
  go_ret2
  exact ⟨rfl, Below.refl _ _⟩
set_option maxHeartbeats 1000000 in
theorem parseR_sep (s : ByteArray) (w : World) (hs : s.size = 20) (hf : sepB s.data.toList = false) : Calls Try.prog 16 #[.string s] w fun e w' => e = .returned (.tuple #[.int .i64 0, .int .i64 3]) ∧ Below w.heap.size w w' := by
  have hn := of_decide_eq_false hf
  have k1 : 4 < s.size := by omega
  have g1 := byte_ne s 4 k1 45 45 rfl
  have k2 : 7 < s.size := by omega
  have g2 := byte_ne s 7 k2 45 45 rfl
  have k3 : 10 < s.size := by omega
  have g3 := byte_ne s 10 k3 84 84 rfl
  have k4 : 13 < s.size := by omega
  have g4 := byte_ne s 13 k4 58 58 rfl
  have k5 : 16 < s.size := by omega
  have g5 := byte_ne s 16 k5 58 58 rfl
  have k6 : 19 < s.size := by omega
  have g6 := byte_ne s 19 k6 90 90 rfl
  have hs20 : 20 ≤ s.size := by omega
  have hs21 : s.size ≤ 20 := by omega
  have h20 : ((s.size : Int) != 20) = false := by simp [hs]
  clear hf hs
  by_cases f1 : s.data.toList.getD 4 0 = 45
  · have g1' : ((s[4].toNat : Int) != 45) = false := by rw [g1, f1]; rfl
    by_cases f2 : s.data.toList.getD 7 0 = 45
    · have g2' : ((s[7].toNat : Int) != 45) = false := by rw [g2, f2]; rfl
      by_cases f3 : s.data.toList.getD 10 0 = 84
      · have g3' : ((s[10].toNat : Int) != 84) = false := by rw [g3, f3]; rfl
        by_cases f4 : s.data.toList.getD 13 0 = 58
        · have g4' : ((s[13].toNat : Int) != 58) = false := by rw [g4, f4]; rfl
          by_cases f5 : s.data.toList.getD 16 0 = 58
          · have g5' : ((s[16].toNat : Int) != 58) = false := by rw [g5, f5]; rfl
            by_cases f6 : s.data.toList.getD 19 0 = 90
            · have g6' : ((s[19].toNat : Int) != 90) = false := by rw [g6, f6]; rfl
              exact absurd ⟨f1, f2, f3, f4, f5, f6⟩ hn
            · have g6' : ((s[19].toNat : Int) != 90) = true := by rw [g6, decide_eq_false f6]; rfl
              clear hn f6 f1 f2 f3 f4 f5 g1 g2 g3 g4 g5 g6
              go_enter Try.func16, Try.ntmps16
              go_wp2
              go_ret2
              exact ⟨rfl, Below.refl _ _⟩
          · have g5' : ((s[16].toNat : Int) != 58) = true := by rw [g5, decide_eq_false f5]; rfl
            clear hn f5 f1 f2 f3 f4 g1 g2 g3 g4 g5 g6
            go_enter Try.func16, Try.ntmps16
            go_wp2
            go_ret2
            exact ⟨rfl, Below.refl _ _⟩
        · have g4' : ((s[13].toNat : Int) != 58) = true := by rw [g4, decide_eq_false f4]; rfl
          clear hn f4 f1 f2 f3 g1 g2 g3 g4 g5 g6
          go_enter Try.func16, Try.ntmps16
          go_wp2
          go_ret2
          exact ⟨rfl, Below.refl _ _⟩
      · have g3' : ((s[10].toNat : Int) != 84) = true := by rw [g3, decide_eq_false f3]; rfl
        clear hn f3 f1 f2 g1 g2 g3 g4 g5 g6
        go_enter Try.func16, Try.ntmps16
        go_wp2
        go_ret2
        exact ⟨rfl, Below.refl _ _⟩
    · have g2' : ((s[7].toNat : Int) != 45) = true := by rw [g2, decide_eq_false f2]; rfl
      clear hn f2 f1 g1 g2 g3 g4 g5 g6
      go_enter Try.func16, Try.ntmps16
      go_wp2
      go_ret2
      exact ⟨rfl, Below.refl _ _⟩
  · have g1' : ((s[4].toNat : Int) != 45) = true := by rw [g1, decide_eq_false f1]; rfl
    clear hn f1  g1 g2 g3 g4 g5 g6
    go_enter Try.func16, Try.ntmps16
    go_wp2
    go_ret2
    exact ⟨rfl, Below.refl _ _⟩

theorem parse_r (s : ByteArray) (w : World) : Calls Try.prog 16 #[.string s] w fun e w' => e = .returned (.tuple #[.int .i64 (parT s.data.toList), .int .i64 (parE s.data.toList)]) ∧ Below w.heap.size w w' := by
  by_cases hs : s.size = 20
  · cases hf : sepB s.data.toList with
    | true => exact parseR_x s w hs hf
    | false =>
      have hn : formB s.data.toList = false := by
        cases e : formB s.data.toList with
        | false => rfl
        | true =>
          have := ((form_parts _ (by rw [← Lib.size_eq]; exact hs)).1 e).1
          rw [hf] at this
          cases this
      rw [(par_no hn).1, (par_no hn).2]
      exact parseR_sep s w hs hf
  · have hn : formB s.data.toList = false := form_no _ (fun h => hs (by rw [Lib.size_eq]; exact h.1))
    rw [(par_no hn).1, (par_no hn).2]
    exact parseR_len s w hs
end Go.Proofs.Ytljcbnjidjcagaa
