/- The law PinPlays: whatever is added, kept, dropped, and expires; no other condition. -/
import Derived.Test.YtjjnjankjbiigaaPnN
namespace Go.Proofs.Ytjjnjankjbiigaa.Pn
open Go.RowKit Go.Lib Go.Maps
set_option linter.unusedSimpArgs false
set_option linter.unusedVariables false

/-- behind so many calls -/
def runL (m : Int) (ts : List OpT) (j : Nat) : List Pin := (ts.take j).foldl (stepL m) []
theorem runL_succ {m : Int} {ts : List OpT} {j : Nat} (h : j < ts.length) : runL m ts (j + 1) = stepL m (runL m ts j) ts[j] := by
  unfold runL
  rw [List.take_succ_eq_append_getElem h, List.foldl_append]
  rfl
theorem runL_len (m : Int) (ts : List OpT) : ∀ j, j ≤ ts.length → (runL m ts j).length ≤ j
  | 0, _ => Nat.le_refl _
  | j + 1, h => by
    rw [runL_succ (by omega)]
    have := stepL_len m (runL m ts j) ts[j]
    have := runL_len m ts j (by omega)
    omega
theorem runL_i64 {m : Int} {ts : List OpT} (h : ∀ o ∈ ts, I64v o.2.1) : ∀ j, j ≤ ts.length → I64 (runL m ts j)
  | 0, _ => I64_nil
  | j + 1, hj => by
    rw [runL_succ (by omega)]
    exact stepL_i64 (runL_i64 h j (by omega)) (h _ (List.getElem_mem _))
theorem btr {a b d : World} (h : Below a.heap.size a b) (k : Below b.heap.size b d) : Below a.heap.size a d := h.trans (k.mono h.size)
theorem Kb.new {m : Int} {w w1 w2 : World} (h1 : IsPn w.heap.size w.heap.size none m [] w1) (b1 : Below w.heap.size w w1) (h2 : IsRp w1.heap.size w1.heap.size none (max m 1) [] w2) (b2 : Below w1.heap.size w1 w2) : Kb w.heap.size none w1.heap.size none m [] [] w w2 := by
  have hlt := h1.lt
  refine ⟨h1.go b2, ?_, btr b1 b2, Nat.le_refl _, b1.size, by omega, by simp, by simp, (fun g hg => by cases hg)⟩
  obtain ⟨v, hv, ho, e⟩ := h2.ex
  refine ⟨⟨v, hv, ?_, e⟩, h2.ne⟩
  rcases ho.2 with ⟨rfl, _⟩ | ⟨g, cap, cur, rfl, _⟩
  · exact World.ownsRow_nil _ _ _ _
  · cases e
set_option maxRecDepth 100000 in
set_option maxHeartbeats 8000000 in
theorem plays_law (m : Int) (a : Option Addr) (len cap : Nat) (ts : List OpT) (id : Int) (hid : I64v id) (w : World) (h : IsOps w a len ts) :
    Calls Try.prog 3 #[.int .i64 m, .slice a len cap, .int .i64 id] w fun e w' => e = .returned (.bool true) ∧ Below w.heap.size w w' := by
  obtain ⟨hlen, hmx, hall, hat⟩ := h
  subst hlen
  have HALL := Lib.hid hall
  have HAT := Lib.hid hat
  unfold maxLen at hmx
  clear hall hat
  go_enter Try.func3, Try.ntmps3
  go_wp2_with fail
  refine (New_c m w).mono ?_
  rintro e w1 ⟨rfl, hn1, hb1⟩
  go_wp2_with fail
  refine (New_r m w1).mono ?_
  rintro e w2 ⟨rfl, hn2, hb2⟩
  have K0 := Lib.hid (Kb.new hn1 hb1 hn2 hb2)
  clear hn1 hb1 hn2 hb2
  obtain ⟨c, hc⟩ : ∃ c, c = w.heap.size := ⟨_, rfl⟩
  obtain ⟨d, hd⟩ : ∃ d, d = w1.heap.size := ⟨_, rfl⟩
  have e0 : Hid (Kb c none d none m [] [] w w2) := by rw [hc, hd]; exact K0
  rw [← hc, ← hd]
  clear K0 hc hd
  go_wp2
  go_loopw [25] (fun iv wr => ∃ (j : Nat) (mb gd : Option Nat), j ≤ ts.length ∧ j ≤ 40 ∧ iv = .int .i64 j ∧ Hid (Kb c mb d gd m (runL m ts j) (runL m ts j) w wr)) (fun iv _ => 41 - (intOf iv).toNat)
  case atStart => exact ⟨0, none, none, by omega, by omega, rfl, e0⟩
  case round =>
    obtain ⟨j, mb, gd, hj, hj40, rfl, HK⟩ := hrel
    clear e0
    by_cases hlt : j < ts.length
    · obtain ⟨g, off, hao, hg, hcells⟩ := HAT.out (by omega)
      obtain ⟨p0', p1', p2'⟩ := hcells j hlt
      have hcw : ∀ k, wr.cell? ⟨g, k, none⟩ = w.cell? ⟨g, k, none⟩ := fun k => HK.out.bel.cell (p := ⟨g, k, none⟩) hg
      have p0 := (hcw _).trans p0'
      have p1 := (hcw _).trans p1'
      have p2 := (hcw _).trans p2'
      have hjl : (j : Int) < (ts.length : Int) := by omega
      have hj0 : (0 : Int) ≤ (j : Int) := by omega
      have hgw : g < wr.heap.size := Nat.lt_of_lt_of_le hg HK.out.bel.size
      have hgn : g ≠ wr.heap.size := by omega
      have hL := runL_len m ts j hj
      have hrs := runL_succ (m := m) hlt
      have hi1 := runL_i64 (m := m) HALL.out (j + 1) (by omega)
      have hoi := HALL.out _ (List.getElem_mem hlt)
      have hL1 := runL_len m ts (j + 1) (by omega)
      have HRS : Hid (stepL m (runL m ts j) ts[j] = runL m ts (j + 1)) := hrs.symm
      obtain ⟨⟨k, x, u⟩, ho⟩ : ∃ o : OpT, ts[j] = o := ⟨_, rfl⟩
      rw [ho] at p0 p1 p2 hoi HRS
      simp only at p0 p1 p2 hoi
      subst hao
      obtain ⟨WX, hWX, hkX, hbX⟩ := new3 wr (.int .i64 k) (.int .i64 x) (.int .i64 u) 28
      have KX := Lib.hid (HK.out.go hbX)
      obtain ⟨x0, x1, x2⟩ := cells3 hkX
      have HWX := Lib.hid hWX
      have HST : Hid (Calls Try.prog 8 #[.pointer (some ⟨c, 0, none⟩), .pointer (some ⟨d, 0, none⟩), .agg #[.int .i64 k, .int .i64 x, .int .i64 u]] WX (StQ c d m (runL m ts (j + 1)) w)) := by
        have := step_c KX.out (k, x, u) hoi (by omega)
        rw [HRS.out] at this
        exact this
      have HI := Lib.hid hi1
      have HBX : Hid (Below w.heap.size w WX) := KX.out.bel
      clear p0' p1' p2' hcw hcells hkX hbX hWX ho hrs hi1 hoi HRS KX hL
      by_cases h40 : 40 ≤ j
      · have h40' : (40 : Int) ≤ (j : Int) := by omega
        go_upto_region 5 with (fail)
        rw [← HWX.out]
        go_wp2_with fail
        refine (awake_c WX).mono ?_
        rintro e w9 ⟨rfl, hb9⟩
        have B9 : Hid (Below w.heap.size w w9) := HBX.out.trans (hb9.mono HBX.out.size)
        clear hb9
        go_wp2
        go_ret
        exact ⟨rfl, B9.out⟩
      · have h40' : ¬ (40 : Int) ≤ (j : Int) := by omega
        have h40'' : (j : Int) < 40 := by omega
        revert HST HI hL1
        generalize hl : runL m ts (j + 1) = l
        intro hL1 HST HI
        have HLE : Hid (runL m ts (j + 1) = l) := hl
        clear hl
        go_upto_region 5 with (fail)
        rw [← HWX.out]
        go_wp2_with fail
        refine HST.out.mono ?_
        rintro e w3 ⟨rfl, mb3, gd3, hk3⟩
        have K3 := Lib.hid hk3
        clear hk3 HK HST x0 x1 x2 p0 p1 p2
        go_wp2_with fail
        refine (Len_c K3.out.pn).mono ?_
        rintro e w4 ⟨rfl, rfl⟩
        go_wp2_with fail
        refine (Len_r K3.out.rp (by omega)).mono ?_
        rintro e w5 ⟨rfl, hb5⟩
        have K5 := Lib.hid (K3.out.go hb5)
        clear hb5 K3
        generalize cnt l = q at *
        go_wp2_with fail
        refine (Rev_c K5.out.pn hid).mono ?_
        rintro e w6 ⟨rfl, hb6⟩
        have K6 := Lib.hid (K5.out.go hb6)
        clear hb6 K5
        go_wp2_with fail
        refine (Rev_r K6.out.rp id (by omega)).mono ?_
        rintro e w7 ⟨rfl, rfl⟩
        go_wp2_with fail
        refine (Least_c K6.out.pn HI.out).mono ?_
        rintro e w8 ⟨rfl, hb8⟩
        have K8 := Lib.hid (K6.out.go hb8)
        clear hb8 K6
        go_wp2_with fail
        refine (Least_r K8.out.rp (by omega)).mono ?_
        rintro e w9 ⟨rfl, hb9⟩
        have K9 := Lib.hid (K8.out.go hb9)
        clear hb9 K8
        go_wp2
        go_roundw
        case rel => exact ⟨j + 1, mb3, gd3, by omega, by omega, by go_num, by rw [HLE.out]; exact K9⟩
        case measure => simp [intOf]; omega
    · have hjl : ¬ (j : Int) < (ts.length : Int) := by omega
      go_wp2_with fail
      refine (awake_c wr).mono ?_
      rintro e w9 ⟨rfl, hb9⟩
      have B9 : Hid (Below w.heap.size w w9) := HK.out.bel.trans (hb9.mono HK.out.bel.size)
      clear hb9
      go_wp2
      go_ret
      exact ⟨rfl, B9.out⟩
end Go.Proofs.Ytjjnjankjbiigaa.Pn
