/- Contracts of the document's own Cut and Fields: the same parts, in memory of the call's own; for every text of at most a thousand bytes and every byte. -/
import Derived.Test.YtbafjilhopgjmaaDoorChFields
namespace Go.Proofs.YtbafjilhopgjmaaDoor.Ch
open Go.RowKit
set_option linter.unusedSimpArgs false
set_option linter.unusedVariables false

theorem byte_dec (b : UInt8) (c : Int) (h0 : 0 ≤ c) (h1 : c ≤ 255) : ((b.toNat : Int) == c) = decide (b = c.toNat.toUInt8) := by
  rw [Bool.eq_iff_iff]
  simp only [beq_iff_eq, decide_eq_true_eq]
  constructor
  · intro h; subst h; simp
  · intro h; subst h
    have : c.toNat < 256 := by omega
    simp [Nat.mod_eq_of_lt this]; omega

/-- what the loop of Cut keeps behind k bytes -/
def CRel (B : Nat) (c : UInt8) (l : List UInt8) (w : World) (k : Nat) (v u : Value) (wr : World) : Prop :=
  ∃ (ss : List (List UInt8)) (t : ByteArray), cutF c (l.take k) = (ss, t.data.toList) ∧ u = .string t ∧ t.size ≤ k ∧ ss.length ≤ k ∧ wr.ownsRow B 9 1 v ss.length (vs ss) ∧ Below B w wr ∧ B ≤ wr.heap.size

theorem cutF_snoc (c : UInt8) (l : List UInt8) (b : UInt8) : cutF c (l ++ [b]) = cutStep c (cutF c l) b := by unfold cutF; rw [List.foldl_append]; rfl
theorem take_snoc {s : ByteArray} {k : Nat} (hk : k < s.size) : s.data.toList.take (k + 1) = s.data.toList.take k ++ [s[k]] := by
  rw [List.take_succ_eq_append_getElem (by rw [← Lib.size_eq]; exact hk), gdat s k hk]

theorem app_data (a b : ByteArray) : (a ++ b).data.toList = a.data.toList ++ b.data.toList := by simp
theorem one_data {s : ByteArray} {k : Nat} (hk : k < s.size) : (s.extract k (k + 1)).data.toList = [s[k]] := by
  rw [Lib.extract_data, List.drop_eq_getElem_cons (by rw [← Lib.size_eq]; exact hk), gdat s k hk, show k + 1 - k = 1 by omega]; rfl
theorem crel_no {B : Nat} {c : UInt8} {s t : ByteArray} {w wr : World} {k : Nat} {v : Value} {ss : List (List UInt8)} (hk : k < s.size) (ht : t.size ≤ k) (hss : ss.length ≤ k)
    (hc : cutF c (s.data.toList.take k) = (ss, t.data.toList)) (hO : wr.ownsRow B 9 1 v ss.length (vs ss)) (hB : Below B w wr) (hz : B ≤ wr.heap.size) (hn : ¬ s[k] = c) :
    CRel B c s.data.toList w (k + 1) v (.string (t ++ s.extract k (k + 1))) wr := by
  refine ⟨ss, _, ?_, rfl, ?_, by omega, hO, hB, hz⟩
  · rw [take_snoc hk, cutF_snoc, hc, app_data, one_data hk]
    unfold cutStep
    rw [if_neg hn]
  · rw [Lib.size_eq, app_data, one_data hk, List.length_append, ← Lib.size_eq]; simp; omega

set_option maxRecDepth 100000 in
set_option maxHeartbeats 2000000 in
theorem cut_r (s : ByteArray) (c : Int) (w : World) (hs : s.size ≤ 1000) (h0 : 0 ≤ c) (h1 : c ≤ 255) :
    Calls Tryd.prog 19 #[.string s, .int .u8 c] w (Owned w.heap.size (cutL c.toNat.toUInt8 s.data.toList) w) := by
  obtain ⟨i0, hi, hz0, hz1, hz2⟩ := info_parts info9
  have HST := Lib.hid (p := CRel w.heap.size c.toNat.toUInt8 s.data.toList w 0 (.slice (some ⟨w.heap.size, 0, none⟩) 0 0) (.string ⟨#[]⟩) (w.alloc (.cells #[] 9)))
    ⟨[], ⟨#[]⟩, by simp [cutF], rfl, by decide, by decide, World.ownsRow_made w #[] 0 (Nat.le_refl _) (by unfold maxLen; omega) rfl, (Below.refl _ _).alloc (Nat.le_refl _) _, by simp⟩
  go_enter Tryd.func19, Tryd.ntmps19
  go_wp2
  go_loopw [5, 6, 7] (fun v u i wr => ∃ k : Nat, k ≤ s.size ∧ i = .int .i64 k ∧ CRel w.heap.size c.toNat.toUInt8 s.data.toList w k v u wr) (fun _ _ i _ => s.size - (intOf i).toNat)
  case atStart => exact ⟨0, by omega, rfl, HST.out⟩
  case round =>
    clear HST
    obtain ⟨k, hk, rfl, ss, t, hc, rfl, ht, hss, hO, hB, hz⟩ := hrel
    have HO := Lib.hid hO
    have HC := Lib.hid hc
    clear hc
    by_cases hlt : k < s.size
    · cases hb : (((s[k].toNat : Nat) : Int) == c) with
      | true =>
        have HE := Lib.hid hb
        go_wp2_with (at_builtin; refine wpList_append_own _ rfl _ _ 34 rfl w.heap.size 9 i0 (.string ByteArray.empty) 1 16 Tryd.underlying34 hi hz0 hz1 hz2 rfl (by decide) _ _ _ rfl (hO.alloc _) ⟨wr.heap.size, 0, none⟩ 1 1 [.string t] rfl rfl ?c1 ?c2 ?c3 ?c4 ?c5 ?_)
        case c1 =>
          intro j u hj
          match j, hj with
          | 0, hj => simp at hj; subst hj; simp [Addr.add]
        case c2 => intro u hu; simp at hu; subst hu; rfl
        case c3 => unfold maxLen; omega
        case c4 => omega
        case c5 => simp; omega
        · intro v' w1 hown' hgrow _
          have HR : Hid (CRel w.heap.size c.toNat.toUInt8 s.data.toList w (k + 1) v' (.string ⟨#[]⟩) w1) := by
            refine ⟨ss ++ [t.data.toList], ⟨#[]⟩, ?_, rfl, Nat.zero_le _, by simp; omega, ?_, hB.trans (((Below.refl _ _).alloc hz _).grown hgrow (by simp; omega) (fun q hq => (HO.out.lt q hq).1)), Nat.le_trans (Nat.le_trans hz (by simp)) hgrow.size⟩
            · have he := HE.out
              rw [byte_dec _ _ h0 h1] at he
              rw [take_snoc hlt, cutF_snoc, HC.out]
              unfold cutStep
              rw [if_pos (of_decide_eq_true he)]
            · rw [vs_app]
              have e2 : (ss ++ [t.data.toList]).length = ss.length + 1 := by simp
              have e3 : vs [t.data.toList] = [.string t] := by simp [vs, ← mkS_of rfl]
              rw [e2, e3]
              exact hown'
          clear hown' hgrow hO
          go_wp2
          go_roundw
          case rel => exact ⟨k + 1, by omega, by go_num, HR.out⟩
          case measure => simp [intOf]; omega
      | false =>
        have HE := Lib.hid hb
        go_wp2
        go_roundw
        case rel => exact ⟨k + 1, by omega, by go_num, crel_no hlt ht hss HC.out HO.out hB hz (by have he := HE.out; rw [byte_dec _ _ h0 h1] at he; exact of_decide_eq_false he)⟩
        case measure => simp [intOf]; omega
    · go_wp2_with (at_builtin; refine wpList_append_own _ rfl _ _ 34 rfl w.heap.size 9 i0 (.string ByteArray.empty) 1 16 Tryd.underlying34 hi hz0 hz1 hz2 rfl (by decide) _ _ _ rfl (hO.alloc _) ⟨wr.heap.size, 0, none⟩ 1 1 [.string t] rfl rfl ?d1 ?d2 ?d3 ?d4 ?d5 ?_)
      case d1 =>
        intro j u hj
        match j, hj with
        | 0, hj => simp at hj; subst hj; simp [Addr.add]
      case d2 => intro u hu; simp at hu; subst hu; rfl
      case d3 => unfold maxLen; omega
      case d4 => omega
      case d5 => simp; omega
      · intro v' w1 hown' hgrow _
        have HR : Hid (Owned w.heap.size (cutL c.toNat.toUInt8 s.data.toList) w (.returned v') w1) := by
          refine ⟨v', rfl, ?_, hB.trans (((Below.refl _ _).alloc hz _).grown hgrow (by simp; omega) (fun q hq => (HO.out.lt q hq).1))⟩
          have hc := HC.out
          rw [List.take_of_length_le (by rw [← Lib.size_eq]; omega)] at hc
          unfold cutL
          rw [hc, vs_app]
          have e2 : (ss ++ [t.data.toList]).length = ss.length + 1 := by simp
          have e3 : vs [t.data.toList] = [.string t] := by simp [vs, ← mkS_of rfl]
          rw [e2, e3]
          exact hown'
        clear hown' hgrow hO
        go_wp2
        go_ret
        exact HR.out

/-- what the loop of the document's Fields keeps behind k parts -/
def PRel (B : Nat) (ps : List (List UInt8)) (w : World) (k : Nat) (v : Value) (wr : World) : Prop :=
  wr.ownsRow B 9 1 v (keepsL (ps.take k)).length (vs (keepsL (ps.take k))) ∧ Below B w wr ∧ B ≤ wr.heap.size

theorem cutF_part (c : UInt8) (l : List UInt8) (N : Nat) : ∀ A W, (∀ p ∈ A, p.length ≤ N) → W.length + l.length ≤ N → (∀ p ∈ (l.foldl (cutStep c) (A, W)).1, p.length ≤ N) ∧ (l.foldl (cutStep c) (A, W)).2.length ≤ N := by
  induction l with
  | nil => intro A W h1 h2; exact ⟨h1, by simpa using h2⟩
  | cons b l ih =>
    intro A W h1 h2
    rw [List.foldl_cons]
    rw [List.length_cons] at h2
    by_cases h : b = c
    · have e : cutStep c (A, W) b = (A ++ [W], []) := by unfold cutStep; rw [if_pos h]
      rw [e]
      refine ih _ _ (fun p hp => ?_) (by simp; omega)
      rcases List.mem_append.1 hp with hp | hp
      · exact h1 p hp
      · rw [List.mem_singleton.1 hp]; omega
    · have e : cutStep c (A, W) b = (A, W ++ [b]) := by unfold cutStep; rw [if_neg h]
      rw [e]
      exact ih _ _ h1 (by simp; omega)
theorem cutL_part (c : UInt8) (l : List UInt8) : ∀ p ∈ cutL c l, p.length ≤ l.length := by
  intro p hp
  have h := cutF_part c l l.length [] [] (by simp) (by simp)
  unfold cutL cutF at hp
  rcases List.mem_append.1 hp with hp | hp
  · exact h.1 p hp
  · rw [List.mem_singleton.1 hp]; exact h.2

theorem keeps_snoc (ps : List (List UInt8)) (k : Nat) (h : k < ps.length) : keepsL (ps.take (k + 1)) = keepsL (ps.take k) ++ keepL ps[k] := by
  unfold keepsL; rw [List.take_succ_eq_append_getElem h, List.flatMap_append, List.flatMap_singleton]

theorem cell_of_owned {w : World} {B g cap : Nat} {ps : List (List UInt8)} (h : w.ownsRow B 9 1 (.slice (some ⟨g, 0, none⟩) ps.length cap) ps.length (vs ps)) (k : Nat) (hk : k < ps.length) :
    w.cell? ⟨g, k, none⟩ = some (.string (mkS ps[k])) := by
  rw [h.cellAt k (by omega)]
  simp [vs, hk]

end Go.Proofs.YtbafjilhopgjmaaDoor.Ch
