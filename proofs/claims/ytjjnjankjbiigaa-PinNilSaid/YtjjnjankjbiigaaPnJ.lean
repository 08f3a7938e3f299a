/- The document's Expire, Add; no other condition. -/
import Derived.Test.YtjjnjankjbiigaaPnI
import Derived.Deep.RegionHeld3
namespace Go.Proofs.Ytjjnjankjbiigaa.Pn
open Go.RowKit Go.Lib Go.Maps
set_option linter.unusedSimpArgs false
set_option linter.unusedVariables false

/-- behind so many rounds of Expire -/
def expJ (l : List Pin) (now : Int) (j : Nat) : List Pin := expL (l.take j) now ++ l.drop j
theorem expJ_len (l : List Pin) (now : Int) (j : Nat) : (expJ l now j).length = l.length := by
  unfold expJ; rw [List.length_append, expL_len, ← List.length_append, List.take_append_drop]
theorem expJ_at {l : List Pin} {now : Int} {j : Nat} (hj : j < l.length) : (expJ l now j)[j]? = some l[j] := by
  unfold expJ
  rw [List.getElem?_append_right (by rw [expL_len, List.length_take]; omega), expL_len, List.length_take, List.getElem?_drop, show j + (j - min j l.length) = j by omega, List.getElem?_eq_getElem hj]
theorem expJ_step {l : List Pin} {now : Int} {j : Nat} (hj : j < l.length) : expJ l now (j + 1) = (expJ l now j).set j (exp1 now l[j]) := by
  unfold expJ
  rw [List.take_succ_eq_append_getElem hj]
  have e : expL (l.take j ++ [l[j]]) now = expL (l.take j) now ++ [exp1 now l[j]] := by unfold expL; rw [List.map_append]; rfl
  have hl : (expL (l.take j) now).length = j := by rw [expL_len, List.length_take]; omega
  rw [e, List.set_append_right _ _ (by omega), hl, Nat.sub_self, List.append_assoc, List.drop_eq_getElem_cons hj]
  rfl
theorem expN_take {l : List Pin} {now : Int} {j : Nat} (hj : j < l.length) : expN (l.take (j + 1)) now = expN (l.take j) now + (if l[j].2.2 && decide (l[j].2.1 ≤ now) then 1 else 0) := by
  rw [List.take_succ_eq_append_getElem hj]
  unfold expN
  rw [List.countP_append]
  congr 1
  rw [List.countP_singleton]
theorem set_same {l : List Pin} {k : Nat} {x : Pin} (h : l[k]? = some x) : l.set k x = l := by
  obtain ⟨hk, rfl⟩ := List.getElem?_eq_some_iff.1 h
  exact List.set_getElem_self _
theorem expN_le (l : List Pin) (now : Int) : expN l now ≤ l.length := List.countP_le_length
set_option maxRecDepth 100000 in
set_option maxHeartbeats 4000000 in
theorem Expire_r {B d : Nat} {gd : Option Nat} {m : Int} {l : List Pin} {w : World} (h : IsRp B d gd m l w) (now : Int) (hm : l.length ≤ 1000000) : Calls Try.prog 23 #[.pointer (some ⟨d, 0, none⟩), .int .i64 now] w (RpQ B d gd m (expL l now) (.int .i64 (expN l now : Nat)) w) := by
  obtain ⟨v, hv, ho, _⟩ := h.ex
  obtain ⟨ao, cap, rfl⟩ := own_form ho
  obtain ⟨c0, c1⟩ := cells2 hv
  have H0 : Hid (IsRp B d gd m (expJ l now 0) w) := h
  clear h hv ho
  go_enter Try.func23, Try.ntmps23
  go_wp2
  clear c0 c1
  go_loopw [5, 12] (fun nv iv wr => ∃ j : Nat, j ≤ l.length ∧ iv = .int .i64 j ∧ nv = .int .i64 (expN (l.take j) now : Nat) ∧ Hid (IsRp B d gd m (expJ l now j) wr) ∧ Hid (Ch d gd w wr)) (fun _ iv _ => l.length - (intOf iv).toNat)
  case atStart => exact ⟨0, by omega, rfl, rfl, H0, Ch.of (Below.refl _ _)⟩
  case round =>
    obtain ⟨j, hj, rfl, rfl, HI, HC⟩ := hrel
    clear H0
    by_cases hlt : j < l.length
    · obtain ⟨v, hv, ho, _⟩ := HI.out.ex
      have hlen := expJ_len l now j
      obtain ⟨g, cp, rfl, hg, _, hat, hfz⟩ := own_at ho (by omega)
      rw [hlen] at hv ho
      obtain ⟨c0, c1⟩ := cells2 hv
      obtain ⟨p0, p1, p2⟩ := cellP hat (i := j) (by omega)
      have hgx := expJ_at (now := now) hlt
      have hgy : (expJ l now j)[j]'(by omega) = l[j] := by
        have := List.getElem?_eq_getElem (l := expJ l now j) (i := j) (by omega)
        rw [hgx] at this; injection this with this; exact this.symm
      rw [hgy] at p0 p1 p2
      have f2 := hfz (j * 3 + 2)
      have hj0 : (0 : Int) ≤ (j : Int) := by omega
      have hjl : (j : Int) < (l.length : Int) := by omega
      have hcN := expN_take (now := now) hlt
      have hcl : expN (l.take j) now ≤ j := Nat.le_trans (expN_le _ _) (by rw [List.length_take]; omega)
      have hst := expJ_step (now := now) hlt
      have HS := Lib.hid (HI.out.set2 (by rw [hlen]; exact hv) (by rw [hlen]; rw [hlen] at *; exact ho) hgx false)
      obtain ⟨⟨x0, x1, x2⟩, hx⟩ : ∃ x : Pin, l[j] = x := ⟨_, rfl⟩
      rw [hx] at p0 p1 p2 hcN hst HS
      simp only at p0 p1 p2 hcN hst HS
      have HCN := Lib.hid hcN
      have HST := Lib.hid hst
      have HGX : Hid ((expJ l now j)[j]? = some (x0, x1, x2)) := by rw [← hx]; exact Lib.hid hgx
      clear hat hx hv ho hfz hgx hgy hcN hst hlen
      revert HCN hcl
      generalize expN (l.take j) now = k
      intro hcl HCN
      have hkb : (k : Int) ≤ 1000000 := by omega
      unfold exp1 at HST
      cases x2 with
      | true =>
        by_cases hz : x1 ≤ now
        · rw [if_pos (by simpa using hz)] at HCN HST
          have HS2 : Hid (IsRp B d gd m (expJ l now (j + 1)) (wr.setCell ⟨g, j * 3 + 2, none⟩ (.bool false)) ∧ Ch d gd w (wr.setCell ⟨g, j * 3 + 2, none⟩ (.bool false))) := by
            show _ ∧ _
            rw [HST.out]
            exact ⟨HS.out.1, HC.out.tr HS.out.2⟩
          clear HS HST HI HC
          go_wp2
          go_roundw
          case rel => exact ⟨j + 1, by omega, by go_num, by rw [HCN.out]; go_num, HS2.out.1, HS2.out.2⟩
          case measure => simp [intOf]; omega
        · rw [if_neg (by simpa using hz)] at HCN HST
          have HS2 : Hid (IsRp B d gd m (expJ l now (j + 1)) wr) := by
            have := HI.out
            show IsRp _ _ _ _ _ _
            rw [HST.out, set_same HGX.out]
            exact this
          clear HS HST HI
          go_wp2
          go_roundw
          case rel => exact ⟨j + 1, by omega, by go_num, by rw [HCN.out]; go_num, HS2, HC⟩
          case measure => simp [intOf]; omega
      | false =>
        rw [if_neg (by simp)] at HCN HST
        have HS2 : Hid (IsRp B d gd m (expJ l now (j + 1)) wr) := by
          have := HI.out
          show IsRp _ _ _ _ _ _
          rw [HST.out, set_same HGX.out]
          exact this
        clear HS HST HI
        go_wp2
        go_roundw
        case rel => exact ⟨j + 1, by omega, by go_num, by rw [HCN.out]; go_num, HS2, HC⟩
        case measure => simp [intOf]; omega
    · have hjl : ¬ (j : Int) < (l.length : Int) := by omega
      have hjj : j = l.length := by omega
      have hE : expJ l now l.length = expL l now := by unfold expJ; rw [List.take_of_length_le (Nat.le_refl _), List.drop_length, List.append_nil]
      rw [hjj, hE] at HI
      rw [hjj, List.take_of_length_le (Nat.le_refl _)]
      clear hj hlt
      go_wp2
      go_ret
      exact ⟨rfl, HI.out, HC.out⟩
def AdR (B d : Nat) (gd : Option Nat) (m : Int) (l' : List Pin) (w : World) (e : Ending) (w' : World) : Prop := e = .returned (.tuple #[.int .i64 (l'.length : Nat), .int .i64 0]) ∧ ∃ gd', IsRp B d gd' m l' w' ∧ Ch d gd w w' ∧ NewB gd gd' w
theorem Add_rarg (d : Nat) {r : Int} (u : Int) (w : World) (hr : r < 0) : Calls Try.prog 20 #[.pointer (some ⟨d, 0, none⟩), .int .i64 r, .int .i64 u] w fun e w' => e = .returned (.tuple #[.int .i64 0, .int .i64 1]) ∧ w' = w := by
  go_enter Try.func20, Try.ntmps20
  go_wp2
  exact bodyPost_ret (v := .tuple #[.int .i64 0, .int .i64 1]) (by simp [results, Try.results20, go_sem]) rfl ⟨rfl, rfl⟩
set_option maxRecDepth 100000 in
set_option maxHeartbeats 2000000 in
theorem Add_rfull {B d : Nat} {gd : Option Nat} {m : Int} {l : List Pin} {w : World} (h : IsRp B d gd m l w) {r : Int} (u : Int) (hr : 0 ≤ r) (hl : l.length ≤ 1000000) (hf : m ≤ (cnt l : Int)) : Calls Try.prog 20 #[.pointer (some ⟨d, 0, none⟩), .int .i64 r, .int .i64 u] w fun e w' => e = .returned (.tuple #[.int .i64 0, .int .i64 7]) ∧ Below w.heap.size w w' := by
  have hr0 : ¬ r < 0 := by omega
  have HL : Hid (∀ W, Below w.heap.size w W → Calls Try.prog 10 #[.pointer (some ⟨d, 0, none⟩)] W fun e w' => e = .returned (.int .i64 (cnt l : Nat)) ∧ Below W.heap.size W w') := fun W hb => Len_r (h.go hb) hl
  obtain ⟨v, hv, _, _⟩ := h.ex
  have HK : Hid (∀ W, Below w.heap.size w W → W.cell? ⟨d, 1, none⟩ = some (.int .i64 m)) := fun W hb => (cells2 ((hb.block d h.lt).trans hv)).2
  obtain ⟨c0, c1⟩ := cells2 hv
  have c1d : w.drew.cell? ⟨d, 1, none⟩ = some (.int .i64 m) := c1
  clear h hv
  revert HL hf
  generalize cnt l = k
  intro hf HL
  go_enter Try.func20, Try.ntmps20
  go_upto_region 3 with (fail)
  go_region_held3 (fun V => V.cell? ⟨d, 1, none⟩ = some (.int .i64 m) ∧ Below w.heap.size w V) (first | exact ⟨c1, bdr w⟩ | exact ⟨k1, HB1⟩) (first | (go_at_call 10; refine (HL.out _ (bdr w)).mono ?_; rintro e w1 ⟨rfl, hb1⟩; have HB1 : Below w.heap.size w w1 := (bdr w).trans (hb1.mono (bdr w).size); have k1 := HK.out w1 HB1))
  all_goals
    go_wp2
    exact bodyPost_ret (v := .tuple #[.int .i64 0, .int .i64 7]) (by simp [results, Try.results20, go_sem]) rfl ⟨rfl, by assumption⟩
end Go.Proofs.Ytjjnjankjbiigaa.Pn
