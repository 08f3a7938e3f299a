/- Contracts of package jtok's escapedRune, escaped and piece: what a part of a text in quotes stands for, and where it ends; for every text of at most a thousand bytes; where the tables lie as the program's text lays them. -/
import Derived.Test.YtkphainopofejaaDoorJtUnits
import Derived.StillTailTactics
namespace Go.Proofs.YtkphainopofejaaDoor.Jt
open Go.RowKit
set_option linter.unusedSimpArgs false
set_option linter.unusedVariables false

def mkS (l : List UInt8) : ByteArray := ⟨l.toArray⟩
theorem mkS_of {s : ByteArray} {l : List UInt8} (h : s.data.toList = l) : s = mkS l := by subst h; exact (Lib.mk_data s).symm
theorem data_mkS (l : List UInt8) : (mkS l).data.toList = l := rfl
theorem size_mkS (l : List UInt8) : (mkS l).size = l.length := by rw [size_l, data_mkS]
def tup3 (x : ByteArray) (k : Int) (b : Bool) : Ending := .returned (.tuple #[.string x, .int .i64 k, .bool b])
theorem bl_len (l : List Int) : (bl l).length = l.length := by unfold bl; rw [List.length_map]
theorem nl_bl {zs : List Int} (h : Ut.Byt zs) : nl (bl zs) = zs := by
  unfold nl bl
  rw [List.map_map]
  conv => rhs; rw [← List.map_id zs]
  apply List.map_congr_left
  intro z hz
  have := h z hz
  show nb (UInt8.ofNat z.toNat) = z
  unfold nb
  have e : (UInt8.ofNat z.toNat).toNat = z.toNat % 256 := by simp
  rw [e]; omega
theorem bts_back {w : World} {g cap : Nat} {zs : List Int} (h : Ut.Bts w g 0 zs) (hy : Ut.Byt zs) : (convert 118 9 (.slice (some ⟨g, 0, none⟩) zs.length cap)).run Tryd.prog w = .ok (.string (mkS (bl zs))) w := by
  have e := run_convert_bytes_back w 118 9 5 ⟨g, 0, none⟩ cap (bl zs) Tryd.underlying118 Tryd.underlying5 Tryd.underlying9 (fun j hj => ?_)
  · rw [bl_len] at e; exact e
  · have hj' : j < zs.length := by rw [bl_len] at hj; exact hj
    have hc := h j hj'
    have ea : (⟨g, 0, none⟩ : Addr).add j = ⟨g, 0 + j, none⟩ := by unfold Addr.add; split <;> simp_all
    rw [ea, hc]
    have hn : (nl (bl zs))[j]'(by rw [nl_len]; exact hj) = zs[j] := by
      have := nl_bl hy
      simp only [this]
    rw [← hn]
    simp [nl, nb]
/-- what the half behind the first one makes -/
theorem back_u {l : List UInt8} {k : Nat} (h1 : k + 1 < l.length) (h2 : at0 l k = 92) (h3 : at0 l (k + 1) = 117) :
    backL l k = if uniA l k < 0 then ([], 0)
      else if (55296 ≤ uniA l k ∧ uniA l k < 56320) ∧ 56320 ≤ uniA l (k + 6) ∧ uniA l (k + 6) < 57344 then (bl (Ut.putI (65536 + (uniA l k - 55296) * 1024 + uniA l (k + 6) - 56320)), 12)
      else if Ut.isR (uniA l k) = true then (bl (Ut.putI (uniA l k)), 6) else ([], 0) := by
  have e0 : uniA l k = hexA l (k + 2) := by
    unfold uniA
    by_cases h : k + 6 ≤ l.length
    · rw [if_pos ⟨h, h2, h3⟩]
    · rw [if_neg (fun g => h g.1)]; unfold hexA; rw [if_pos (by omega)]
  have e1 : escI 117 = -1 := by decide
  unfold backL
  rw [if_neg (by omega), h3, e1, if_neg (by decide), e0]
  by_cases hx : hexA l (k + 2) < 0
  · rw [if_pos (.inr hx), if_pos hx]
  · rw [if_neg (fun g => by rcases g with g | g; exact g rfl; exact hx g), if_neg hx]
    by_cases hp : (55296 ≤ hexA l (k + 2) ∧ hexA l (k + 2) < 56320) ∧ 56320 ≤ uniA l (k + 6) ∧ uniA l (k + 6) < 57344
    · have hu : (k + 6) + 6 ≤ l.length ∧ at0 l (k + 6) = 92 ∧ at0 l (k + 6 + 1) = 117 := by
        by_cases hh : (k + 6) + 6 ≤ l.length ∧ at0 l (k + 6) = 92 ∧ at0 l (k + 6 + 1) = 117
        · exact hh
        · have := hp.2.1; unfold uniA at this; rw [if_neg hh] at this; omega
      have e2 : uniA l (k + 6) = hexA l (k + 8) := by unfold uniA; rw [if_pos hu]
      rw [if_pos hp]
      rw [e2] at hp ⊢
      rw [if_pos ⟨hp.1, by omega, hu.2.1, hu.2.2, hp.2⟩]
    · rw [if_neg hp, if_neg]
      rintro ⟨a1, a2, a3, a4, a5⟩
      apply hp
      refine ⟨a1, ?_⟩
      have e2 : uniA l (k + 6) = hexA l (k + 8) := by
        unfold uniA
        by_cases h : k + 6 + 6 ≤ l.length
        · rw [if_pos ⟨h, a3, a4⟩]
        · rw [if_neg (fun g => h g.1)]; unfold hexA; rw [if_pos (by omega)]
      rw [e2]; exact a5

theorem isR_hex {v : Int} (h0 : 0 ≤ v) (h1 : v ≤ 65535) : Ut.isR v = decide (v < 55296 ∨ 57343 < v) := by
  unfold Ut.isR; rw [Bool.eq_iff_iff]; simp; omega
theorem putI_byt0 : Ut.Byt (Ut.putI 0) := Ut.putI_byt 0 (by decide)
set_option maxRecDepth 100000 in
set_option maxHeartbeats 4000000 in
/-- one unit that is a rune -/
theorem esr_one (s : ByteArray) (k : Nat) (v : Int) (w : World) (hT : Ut.Tabs w) (hs : s.size ≤ 1000) (hk : k ≤ s.size) (hv : uniA s.data.toList k = v) (h0 : 0 ≤ v) (h1 : Ut.isR v = true) :
    Calls Tryd.prog 69 #[.string s, .int .i64 (k : Int)] w fun e w' => e = tup3 (mkS (bl (Ut.putI v))) ((k : Int) + 6) true ∧ Below w.heap.size w w' := by
  have HU := Lib.hid (unit_yes s k w hs (by rw [hv]; exact h0))
  rw [hv] at HU
  have HP := Lib.hid (Ut.put_c v w hT h1)
  have hy := Ut.putI_byt v h1
  clear hv h1 hT
  revert HP hy
  generalize Ut.putI v = zs
  intro HP hy
  have HY := Lib.hid hy
  clear hy
  go_enter Tryd.func69, Tryd.ntmps69
  go_wp2_with fail
  refine HU.out.mono ?_
  rintro e w' ⟨rfl, rfl⟩
  go_wp2_with fail
  refine HP.out.mono ?_
  rintro e w1 ⟨g, cap, rfl, hc1, hc2, hg, hB, hb⟩
  have hcv := bts_back (cap := cap) hB HY.out
  have B1 := Lib.hid hb
  clear hb hB hc1 hc2 hg
  go_wp2
  go_ret3
  exact ⟨rfl, B1.out⟩
set_option maxRecDepth 100000 in
set_option maxHeartbeats 4000000 in
/-- no unit -/
theorem esr_none (s : ByteArray) (k : Nat) (w : World) (hs : s.size ≤ 1000) (hk : k ≤ s.size) (hv : uniA s.data.toList k < 0) :
    Calls Tryd.prog 69 #[.string s, .int .i64 (k : Int)] w fun e w' => (∃ t j, e = tup3 t j false) ∧ Below w.heap.size w w' := by
  have HU := Lib.hid (unit_no s k w hs hk hv)
  clear hv
  go_enter Tryd.func69, Tryd.ntmps69
  go_wp2_with fail
  refine HU.out.mono ?_
  rintro e w' ⟨rfl, rfl⟩
  go_wp2
  go_ret3
  exact ⟨⟨_, _, rfl⟩, Below.refl _ _⟩
set_option maxRecDepth 100000 in
set_option maxHeartbeats 4000000 in
/-- a half without a unit behind it -/
theorem esr_half (s : ByteArray) (k : Nat) (v : Int) (w : World) (hs : s.size ≤ 1000) (hk : k + 6 ≤ s.size) (hv : uniA s.data.toList k = v) (h0 : 0 ≤ v) (h1 : Ut.isR v = false) (h2 : uniA s.data.toList (k + 6) < 0) :
    Calls Tryd.prog 69 #[.string s, .int .i64 (k : Int)] w fun e w' => (∃ t j, e = tup3 t j false) ∧ Below w.heap.size w w' := by
  have HU := Lib.hid (unit_yes s k w hs (by rw [hv]; exact h0))
  rw [hv] at HU
  have HP := Lib.hid (Ut.put_no v w h1)
  have HL := Lib.hid (unit_no s (k + 6) w hs (by omega) h2)
  have ec : ((k + 6 : Nat) : Int) = (k : Int) + 6 := by omega
  rw [ec] at HL
  clear hv h1 h2 ec
  go_enter Tryd.func69, Tryd.ntmps69
  go_wp2_with fail
  refine HU.out.mono ?_
  rintro e w' ⟨rfl, rfl⟩
  go_wp2_with fail
  refine HP.out.mono ?_
  rintro e w' ⟨rfl, rfl⟩
  go_wp2_with fail
  refine HL.out.mono ?_
  rintro e w' ⟨rfl, rfl⟩
  go_wp2
  go_ret3
  exact ⟨⟨_, _, rfl⟩, Below.refl _ _⟩
set_option maxRecDepth 100000 in
set_option maxHeartbeats 4000000 in
/-- two units, the first one no rune: a pair or not -/
theorem esr_two (s : ByteArray) (k : Nat) (v u r : Int) (b : Bool) (w : World) (hT : Ut.Tabs w) (hs : s.size ≤ 1000) (hk : k + 6 ≤ s.size) (hv : uniA s.data.toList k = v) (h0 : 0 ≤ v) (h1 : Ut.isR v = false) (hu : uniA s.data.toList (k + 6) = u) (h2 : 0 ≤ u)
    (hp : ∀ W, Calls Tryd.prog 77 #[.int .i32 v, .int .i32 u] W fun e w' => e = .returned (.tuple #[.int .i32 r, .bool b]) ∧ W = w') (hr : Ut.isR r = true) :
    Calls Tryd.prog 69 #[.string s, .int .i64 (k : Int)] w fun e w' => e = tup3 (mkS (bl (Ut.putI r))) ((k : Int) + 12) b ∧ Below w.heap.size w w' := by
  have HU := Lib.hid (unit_yes s k w hs (by rw [hv]; exact h0))
  rw [hv] at HU
  have HN := Lib.hid (Ut.put_no v w h1)
  have HL := Lib.hid (unit_yes s (k + 6) w hs (by rw [hu]; exact h2))
  have ec : ((k + 6 : Nat) : Int) = (k : Int) + 6 := by omega
  rw [ec, hu] at HL
  have HQ := Lib.hid (hp w)
  have HP := Lib.hid (Ut.put_c r w hT hr)
  have hy := Ut.putI_byt r hr
  clear hv h1 hu hT hr hp ec
  revert HP hy
  generalize Ut.putI r = zs
  intro HP hy
  have HY := Lib.hid hy
  clear hy
  go_enter Tryd.func69, Tryd.ntmps69
  go_wp2_with fail
  refine HU.out.mono ?_
  rintro e w' ⟨rfl, rfl⟩
  go_wp2_with fail
  refine HN.out.mono ?_
  rintro e w' ⟨rfl, rfl⟩
  go_wp2_with fail
  refine HL.out.mono ?_
  rintro e w' ⟨rfl, rfl⟩
  go_wp2_with fail
  refine HQ.out.mono ?_
  rintro e w' ⟨rfl, rfl⟩
  go_wp2_with fail
  refine HP.out.mono ?_
  rintro e w1 ⟨g, cap, rfl, hc1, hc2, hg, hB, hb⟩
  have hcv := bts_back (cap := cap) hB HY.out
  have B1 := Lib.hid hb
  clear hb hB hc1 hc2 hg
  go_wp2
  go_ret3
  exact ⟨rfl, B1.out⟩
/-- what a part is: right, or wrong -/
def PcP (k : Nat) (r : List UInt8 × Nat) (w : World) (e : Ending) (w' : World) : Prop := (if r.2 = 0 then ∃ t j, e = tup3 t j false else e = tup3 (mkS r.1) ((k : Int) + (r.2 : Nat)) true) ∧ Below w.heap.size w w'
theorem pcp_no {k : Nat} {r : List UInt8 × Nat} {w : World} {e : Ending} {w' : World} (h : r.2 = 0) (g : (∃ t j, e = tup3 t j false) ∧ Below w.heap.size w w') : PcP k r w e w' := by unfold PcP; rw [if_pos h]; exact g
theorem pcp_yes {k n : Nat} {r : List UInt8 × Nat} {w : World} {e : Ending} {w' : World} (hn : r.2 = n) (h : n ≠ 0) (g : e = tup3 (mkS r.1) ((k : Int) + (n : Nat)) true ∧ Below w.heap.size w w') : PcP k r w e w' := by unfold PcP; rw [hn, if_neg h]; exact g
theorem uni_len {l : List UInt8} {k : Nat} (h : 0 ≤ uniA l k) : k + 6 ≤ l.length := by
  unfold uniA at h
  by_cases g : k + 6 ≤ l.length ∧ at0 l k = 92 ∧ at0 l (k + 1) = 117
  · exact g.1
  · rw [if_neg g] at h; omega
theorem uni_bd (l : List UInt8) (k : Nat) : uniA l k ≤ 65535 := by
  unfold uniA; split
  · exact (hexA_bd _ _).2
  · omega
theorem esr_c (s : ByteArray) (k : Nat) (w : World) (hT : Ut.Tabs w) (hs : s.size ≤ 1000) (hk : k + 1 < s.size) (h2 : at0 s.data.toList k = 92) (h3 : at0 s.data.toList (k + 1) = 117) :
    Calls Tryd.prog 69 #[.string s, .int .i64 (k : Int)] w (PcP k (backL s.data.toList k) w) := by
  rw [back_u (by rw [← size_l]; exact hk) h2 h3]
  by_cases hv : uniA s.data.toList k < 0
  · rw [if_pos hv]
    exact (esr_none s k w hs (by omega) hv).mono fun e w' g => pcp_no rfl g
  · rw [if_neg hv]
    have hl := uni_len (l := s.data.toList) (k := k) (by omega)
    rw [← size_l] at hl
    have hb := uni_bd s.data.toList k
    have hir := isR_hex (v := uniA s.data.toList k) (by omega) hb
    by_cases hp : (55296 ≤ uniA s.data.toList k ∧ uniA s.data.toList k < 56320) ∧ 56320 ≤ uniA s.data.toList (k + 6) ∧ uniA s.data.toList (k + 6) < 57344
    · rw [if_pos hp]
      refine (esr_two s k _ _ _ true w hT hs hl rfl (by omega) (by rw [hir, decide_eq_false_iff_not]; omega) rfl (by omega) (fun W => pair_yes _ _ W hp.1.1 (by omega) hp.2.1 (by omega)) (by unfold Ut.isR; rw [decide_eq_true_eq]; omega)).mono fun e w' g => pcp_yes (n := 12) rfl (by decide) g
    · rw [if_neg hp]
      cases hr : Ut.isR (uniA s.data.toList k) with
      | true =>
        rw [if_pos rfl]
        exact (esr_one s k _ w hT hs (by omega) rfl (by omega) hr).mono fun e w' g => pcp_yes (n := 6) rfl (by decide) g
      | false =>
        rw [if_neg (by decide)]
        rw [hir, decide_eq_false_iff_not] at hr
        by_cases hu : uniA s.data.toList (k + 6) < 0
        · exact (esr_half s k _ w hs hl rfl (by omega) (by rw [hir, decide_eq_false_iff_not]; exact hr) hu).mono fun e w' g => pcp_no rfl g
        · exact (esr_two s k _ _ 0 false w hT hs hl rfl (by omega) (by rw [hir, decide_eq_false_iff_not]; exact hr) rfl (by omega) (fun W => pair_no _ _ W (by omega)) (by decide)).mono fun e w' g => pcp_no rfl ⟨⟨_, _, g.1⟩, g.2⟩
end Go.Proofs.YtkphainopofejaaDoor.Jt
