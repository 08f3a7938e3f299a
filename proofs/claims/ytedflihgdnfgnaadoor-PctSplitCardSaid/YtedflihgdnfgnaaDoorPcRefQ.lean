/- Contracts of the document's own cut and Query: for every text of at most five hundred bytes. -/
import Derived.Test.YtedflihgdnfgnaaDoorPcAwake
import Derived.Test.YtedflihgdnfgnaaDoorPcDecR
namespace Go.Proofs.YtedflihgdnfgnaaDoor.Pc
open Go.RowKit Jt
set_option linter.unusedSimpArgs false
set_option linter.unusedVariables false

theorem cutP_here {c : UInt8} {l : List UInt8} {k : Nat} (hk : k < l.length) (hn : ¬ c ∈ l.take k) (hc : l[k] = c) : cutP c l = (l.take k, l.drop (k + 1)) := by
  have h := cutP_at (c := c) (p := l.take k) (q := l.drop (k + 1)) hn
  rw [← hc, ← List.drop_eq_getElem_cons hk, List.take_append_drop] at h
  rw [← hc]; exact h
theorem notin_step {c : UInt8} {l : List UInt8} {k : Nat} (hk : k < l.length) (hn : ¬ c ∈ l.take k) (hc : l[k] ≠ c) : ¬ c ∈ l.take (k + 1) := by
  rw [List.take_succ_eq_append_getElem hk, List.mem_append]
  rintro (h | h)
  · exact hn h
  · exact hc (List.mem_singleton.1 h).symm
set_option maxRecDepth 100000 in
set_option maxHeartbeats 4000000 in
theorem cutR_c (s : ByteArray) (c : UInt8) (z : Int) (hz : z = (c.toNat : Int)) (w : World) (hs : s.size ≤ 1000) :
    Calls Tryd.prog 31 #[.string s, .int .u8 z] w fun e w' => e = .returned (.tuple #[.string (mkS (cutP c s.data.toList).1), .string (mkS (cutP c s.data.toList).2)]) ∧ ∃ n, w' = w.drewN n := by
  have hsl := Lib.hid (size_l s)
  have HZ := Lib.hid hz
  clear hz
  go_enter Tryd.func31, Tryd.ntmps31
  go_wp2
  go_loop [6] (fun v => ∃ k : Nat, k ≤ s.size ∧ v = .int .i64 (k : Int) ∧ ¬ c ∈ s.data.toList.take k) (fun v => s.size - (intOf v).toNat)
  case atStart => exact ⟨0, by omega, rfl, by simp⟩
  case round =>
    obtain ⟨k, hk, rfl, hn⟩ := hrel
    have HN := Lib.hid hn
    clear hn
    by_cases hlt : k < s.size
    · have hl : k < s.data.toList.length := by rw [← hsl.out]; exact hlt
      have hda : s.data.toList[k] = s[k] := data_at hlt hl
      by_cases hc : s[k] = c
      · have HC := Lib.hid (cutP_here hl HN.out (hda.trans hc))
        have HE1 := Lib.hid (ext0 s k)
        have HE2 := Lib.hid (extN s (k + 1))
        have hzk : ((s[k].toNat : Nat) : Int) = z := by rw [hc, HZ.out]
        have c4 : (k : Int) + 1 ≤ (s.size : Int) := by omega
        clear hda hc
        go_wp2
        go_quiet (fail)
        go_wp2
        go_ret2
        exact ⟨by rw [HC.out, ← HE1.out, ← HE2.out]; rfl, _, rfl⟩
      · have HN1 := Lib.hid (notin_step hl HN.out (fun e => hc (hda.symm.trans e)))
        have hq : (((s[k].toNat : Nat) : Int) == z) = false := by
          rw [HZ.out]
          have : ¬ ((s[k].toNat : Nat) : Int) = ((c.toNat : Nat) : Int) := fun e => hc (UInt8.toNat_inj.1 (by omega))
          simpa using this
        clear hda hc
        go_wp2
        go_round
        case rel => exact ⟨k + 1, by omega, by go_num, HN1.out⟩
        case measure => simp [intOf]; omega
    · have HC : Hid (cutP c s.data.toList = (s.data.toList, [])) := cutP_no (by have := HN.out; rw [List.take_of_length_le (by rw [← hsl.out]; omega)] at this; exact this)
      have HE : Hid (s = mkS s.data.toList) := mkS_of rfl
      go_wp2
      go_ret2
      exact ⟨by rw [HC.out, ← HE.out]; rfl, 0, rfl⟩
def QyV (q : Option (List PairL)) (w : World) (e : Ending) (w' : World) : Prop :=
  (match q with | none => e = .returned (.tuple #[.slice none 0 0, .bool false]) | some ps => ∃ v, e = .returned (.tuple #[v, .bool true]) ∧ OwP 44 w.heap.size v ps w') ∧ Below w.heap.size w w'
theorem qyv_no {q : Option (List PairL)} {w : World} {e : Ending} {w' : World} (h : q = none) (he : e = .returned (.tuple #[.slice none 0 0, .bool false])) (hb : Below w.heap.size w w') : QyV q w e w' := by subst h; exact ⟨he, hb⟩
theorem qyv_some {q : Option (List PairL)} {ps : List PairL} {w : World} {e : Ending} {w' : World} {v : Value} (h : q = some ps) (he : e = .returned (.tuple #[v, .bool true])) (ho : OwP 44 w.heap.size v ps w') (hb : Below w.heap.size w w') : QyV q w e w' := by subst h; exact ⟨⟨v, he, ho⟩, hb⟩
theorem infoR : (Tryd.prog.info? 44).map (fun i => (i.zero, i.size, i.bytes)) = some (some (.agg #[.string ⟨#[]⟩, .string ⟨#[]⟩]), 2, 32) := by kernel_rfl
theorem cutL_pos (c : UInt8) (l : List UInt8) : 0 < (Ch.cutL c l).length := by unfold Ch.cutL; simp
/-- where the pair of a part comes from -/
theorem pair_parts {p : List UInt8} : (∃ x y, decL true (cutP 61 p).1 = some x ∧ decL true (cutP 61 p).2 = some y ∧ pairL p = some (x, y)) ∨ (decL true (cutP 61 p).1 = none ∧ pairL p = none) ∨ (∃ x, decL true (cutP 61 p).1 = some x ∧ decL true (cutP 61 p).2 = none ∧ pairL p = none) := by
  unfold pairL
  cases h1 : decL true (cutP 61 p).1 with
  | none => right; left; exact ⟨rfl, rfl⟩
  | some x =>
    cases h2 : decL true (cutP 61 p).2 with
    | none => right; right; exact ⟨x, rfl, rfl, rfl⟩
    | some y => left; exact ⟨x, y, rfl, rfl, rfl⟩
end Go.Proofs.YtedflihgdnfgnaaDoor.Pc
