/- The contract of the document's Text (what stands in quotes): for every text of at most a thousand bytes, every place in it. -/
import Derived.Test.YtpgllcdcpdeicaaGreatDoorJtRef3
namespace Go.Proofs.YtpgllcdcpdeicaaGreatDoor.Jt
open Go.RowKit
set_option linter.unusedSimpArgs false
set_option linter.unusedVariables false

theorem unit_le {l : List UInt8} {k : Nat} (hk : k < l.length) (h : (unitL l k).2 ≠ 0) : k + (unitL l k).2 ≤ l.length := by
  unfold unitL at h ⊢
  by_cases h1 : at0 l k < 32 ∨ at0 l k = 34
  · rw [if_pos h1] at h; exact absurd rfl h
  · rw [if_neg h1] at h ⊢
    by_cases h2 : at0 l k ≠ 92
    · rw [if_pos h2] at h ⊢
      by_cases h3 : runL l k = 0
      · rw [if_pos h3] at h; exact absurd rfl h
      · rw [if_neg h3]
        have := (Ut.nextW_k (nl (l.drop k))).1
        rw [nl_len, List.length_drop] at this
        show k + runL l k ≤ _
        unfold runL at h3 ⊢
        omega
    · rw [if_neg h2] at h ⊢; exact back_le l k h
theorem unit_len (l : List UInt8) (k : Nat) : (unitL l k).1.length ≤ 4 * (unitL l k).2 := by
  unfold unitL
  by_cases h1 : at0 l k < 32 ∨ at0 l k = 34
  · rw [if_pos h1]; simp
  · rw [if_neg h1]
    by_cases h2 : at0 l k ≠ 92
    · rw [if_pos h2]
      by_cases h3 : runL l k = 0
      · rw [if_pos h3]; simp
      · rw [if_neg h3]
        show (cutL l k (k + runL l k)).length ≤ 4 * runL l k
        unfold cutL; rw [List.length_take]; omega
    · rw [if_neg h2]; exact back_len l k
/-- a slice of bytes of the call's own -/
def OwB (B : Nat) (v : Value) (l : List UInt8) (w : World) : Prop := w.ownsRowF B 5 1 v l.length (Lib.byteCells l)
theorem conv_nil (w : World) : (convert 82 9 (.slice none 0 0)).run Tryz.prog w = .ok (.string (mkS [])) w := by kernel_rfl
theorem cells_one (l : List UInt8) : ∀ u ∈ Lib.byteCells l, u.oneCell' = true := by
  intro u hu
  unfold Lib.byteCells at hu
  obtain ⟨b, _, rfl⟩ := List.mem_map.1 hu
  rfl
theorem own_str {B : Nat} {v : Value} {l : List UInt8} {w : World} (h : OwB B v l w) : (convert 82 9 v).run Tryz.prog w = .ok (.string (mkS l)) w := by
  obtain ⟨_, h⟩ := h
  rcases h with ⟨rfl, h0⟩ | ⟨g, cap, cur, fz, rfl, hB, hg, hfz, hc, hcm, hsz, htk⟩
  · have : l = [] := List.length_eq_zero_iff.1 h0
    subst this
    exact conv_nil w
  · exact run_convert_bytes_back w 82 9 5 ⟨g, 0, none⟩ cap l Tryz.underlying82 Tryz.underlying5 Tryz.underlying9 (fun j hj => by
      have ea : (⟨g, 0, none⟩ : Addr).add j = ⟨g, j, none⟩ := by unfold Addr.add; split <;> simp_all
      rw [ea, Ut.blk_cell hg j]
      have h1 : (cur.toList.take (l.length * 1))[j]? = (Lib.byteCells l)[j]? := by rw [htk]
      rw [List.getElem?_take_of_lt (by omega)] at h1
      rw [← Array.getElem?_toList, h1]
      unfold Lib.byteCells
      rw [List.getElem?_map, List.getElem?_eq_getElem hj]; rfl)
theorem OwB.go {B : Nat} {v : Value} {l : List UInt8} {w w' : World} (h : OwB B v l w) (hb : Below w.heap.size w w') : OwB B v l w' :=
  World.ownsRowF.kept h (row := none) ⟨hb.os, hb.tape, hb.output, hb.size, fun k hk _ => hb.block k hk⟩ (by cases hv : v.ownBlock <;> simp)
def TrP (l : List UInt8) (a : Nat) (w : World) (e : Ending) (w' : World) : Prop :=
  (match textA l a with | none => e = .returned (.tuple #[.string ⟨#[]⟩, .int .i64 (-1)]) | some r => e = .returned (.tuple #[.string (mkS r.1), .int .i64 (r.2 : Nat)])) ∧ Below w.heap.size w w'
theorem trp_no {l : List UInt8} {a : Nat} {w : World} {e : Ending} {w' : World} (h : textA l a = none) (g : e = .returned (.tuple #[.string ⟨#[]⟩, .int .i64 (-1)]) ∧ Below w.heap.size w w') : TrP l a w e w' := by unfold TrP; rw [h]; exact g
theorem trp_yes {l : List UInt8} {a k : Nat} {t : List UInt8} {w : World} {e : Ending} {w' : World} (h : textA l a = some (t, k)) (g : e = .returned (.tuple #[.string (mkS t), .int .i64 (k : Nat)]) ∧ Below w.heap.size w w') : TrP l a w e w' := by unfold TrP; rw [h]; exact g
theorem unp_out0 {r : List UInt8 × Nat} {w : World} {e : Ending} {w' : World} (h : UnP r w e w') (hz : r.2 = 0) : e = tupS (.slice none 0 0) 0 ∧ Below w.heap.size w w' := by unfold UnP at h; rw [if_pos hz] at h; exact h
theorem unp_out1 {r : List UInt8 × Nat} {w : World} {e : Ending} {w' : World} (h : UnP r w e w') (hz : r.2 ≠ 0) : (∃ g off cap, e = tupS (.slice (some ⟨g, off, none⟩) r.1.length cap) (r.2 : Nat) ∧ g < w'.heap.size ∧ Ut.Bts w' g off (nl r.1)) ∧ Below w.heap.size w w' := by unfold UnP at h; rw [if_neg hz] at h; exact h
def TrR (l : List UInt8) (a : Nat) (w : World) (v o : Value) (wr : World) : Prop := ∃ (k : Nat) (acc : List UInt8), v = .int .i64 (k : Int) ∧ k ≤ l.length ∧ acc.length ≤ 4 * k ∧ OwB w.heap.size o acc wr ∧ Below w.heap.size w wr ∧ textA l a = (textA l k).map fun r => (acc ++ r.1, r.2)
set_option maxRecDepth 100000 in
set_option maxHeartbeats 8000000 in
theorem textr_c (s : ByteArray) (a : Nat) (w : World) (hs : s.size ≤ 1000) (ha : a ≤ s.size) : Calls Tryz.prog 28 #[.string s, .int .i64 (a : Int)] w (TrP s.data.toList a w) := by
  have hsl := Lib.hid (size_l s)
  obtain ⟨i0, hi, hz0, hz1, hz2⟩ := info_parts Tryz.Builder_Extra_169.infoByte
  have HST : Hid (TrR s.data.toList a w (.int .i64 (a : Int)) (.slice none 0 0) w) := ⟨a, [], rfl, by rw [← hsl.out]; exact ha, by simp, ⟨rfl, .inl ⟨rfl, rfl⟩⟩, Below.refl _ _, by cases textA s.data.toList a <;> simp⟩
  go_enter Tryz.func28, Tryz.ntmps28
  go_wp2
  go_loopw [1, 6] (fun v o wr => TrR s.data.toList a w v o wr) (fun v _ _ => s.size - (intOf v).toNat)
  case atStart => exact HST.out
  case round =>
    clear HST
    rename_i o1 _
    obtain ⟨k, acc, rfl, hk, hacc, hown, hB, htx⟩ := hrel
    rw [← hsl.out] at hk
    have HO := Lib.hid hown
    have HB := Lib.hid hB
    have HTX := Lib.hid htx
    clear hown hB htx
    by_cases hlt : k < s.size
    · have hlt' : (k : Int) < (s.size : Int) := by omega
      have hlk : k < s.data.toList.length := by rw [← hsl.out]; exact hlt
      by_cases hq : at0 s.data.toList k = 34
      · have q : ((s[k].toNat : Int) == 34) = true := by rw [byte_q s k hlt, hq]; rfl
        have HR : Hid (textA s.data.toList a = some (acc, k + 1)) := by
          show textA s.data.toList a = _
          rw [HTX.out, text_quote hlk hq]; simp
        have hcv := own_str HO.out
        clear hq
        go_wp2
        go_ret2
        exact trp_yes HR.out ⟨rfl, HB.out⟩
      · have q : ((s[k].toNat : Int) == 34) = false := by rw [byte_q s k hlt, decide_eq_false hq]
        have HUC := Lib.hid (unit_r s k wr hs hlt)
        by_cases hz : (unitL s.data.toList k).2 = 0
        · have HR : Hid (textA s.data.toList a = none) := by
            show textA s.data.toList a = _
            rw [HTX.out, text_bad hq hz]; rfl
          have HU := Lib.hid (HUC.out.mono fun e w' g => unp_out0 g hz)
          clear hq hz HUC
          go_wp2_with fail
          refine HU.out.mono ?_
          rintro e w2 ⟨rfl, hb2⟩
          have HB2 := Lib.hid hb2
          clear hb2
          unfold tupS
          go_wp2
          go_ret2
          exact trp_no HR.out ⟨rfl, HB.out.trans (HB2.out.mono HB.out.size)⟩
        · have hstep := text_step hlk hq hz
          have hle := unit_le hlk hz
          have hln := unit_len s.data.toList k
          have HU := Lib.hid (HUC.out.mono fun e w' g => unp_out1 g hz)
          rw [← hsl.out] at hle
          have HR : Hid (textA s.data.toList a = (textA s.data.toList (k + (unitL s.data.toList k).2)).map fun r => ((acc ++ (unitL s.data.toList k).1) ++ r.1, r.2)) := by
            show textA s.data.toList a = _
            rw [HTX.out, hstep, map_app]
          clear hq hstep HTX HUC
          revert HU HR hz hle hln
          generalize unitL s.data.toList k = pc
          intro hz hle hln HU HR
          obtain ⟨x, n⟩ := pc
          simp only at hz hle hln HU HR
          have qn : ((n : Int) == 0) = false := by simp; omega
          go_wp2_with fail
          refine HU.out.mono ?_
          rintro e w2 ⟨⟨g, off, cap, rfl, hg, hbt⟩, hb2⟩
          have HB2 := Lib.hid hb2
          have HO2 := Lib.hid (HO.out.go hb2)
          have HBT := Lib.hid hbt
          clear hb2 hbt
          unfold tupS
          go_wp2_with (at_builtin; refine wpList_append_ownF _ rfl _ _ 82 rfl w.heap.size 5 i0 (.int .u8 0) 1 1 Tryz.underlying82 hi hz0 hz1 hz2 rfl (by decide) _ _ _ rfl HO2.out ⟨g, off, none⟩ x.length cap (Lib.byteCells x) rfl ?c0 ?c1 ?c2 ?c3 ?c4 ?c5 ?_)
          case c0 => rw [byteCells_len, Nat.mul_one]
          case c1 =>
            intro j u hj
            have hjx : j < x.length := by
              rcases Nat.lt_or_ge j x.length with h | h
              · exact h
              · rw [List.getElem?_eq_none (by rw [byteCells_len]; exact h)] at hj; cases hj
            have hc := HBT.out j (by rw [nl_len]; exact hjx)
            have ea : (⟨g, off, none⟩ : Addr).add j = ⟨g, off + j, none⟩ := by unfold Addr.add; split <;> simp_all
            rw [ea, hc]
            unfold Lib.byteCells at hj
            rw [List.getElem?_map, List.getElem?_eq_getElem hjx] at hj
            simp at hj
            subst hj
            simp [nl, nb]
          case c2 => exact cells_one x
          case c3 => unfold maxLen; omega
          case c4 => omega
          case c5 => have := HB.out.size; have := HB2.out.size; omega
          intro v' w3 hown' hgrow _
          have HO3 : Hid (OwB w.heap.size v' (acc ++ x) w3) := by
            show OwB w.heap.size v' (acc ++ x) w3
            unfold OwB
            rw [List.length_append, ← byteCells_app]
            exact hown'
          have HB3 : Hid (Below w.heap.size w w3) := by
            have hb := HB.out.trans (HB2.out.mono HB.out.size)
            exact hb.grown hgrow hb.size (fun k hk => (HO2.out.lt k hk).1)
          clear hown' hgrow
          go_wp2
          go_roundw
          case rel => exact ⟨k + n, acc ++ x, by go_num, by rw [← hsl.out]; omega, by rw [List.length_append]; omega, HO3.out, HB3.out, HR.out⟩
          case measure => simp [intOf]; omega
    · have HR : Hid (textA s.data.toList a = none) := by
        show textA s.data.toList a = _
        rw [HTX.out, text_end (by rw [← hsl.out]; omega)]; rfl
      go_wp2
      go_ret2
      exact trp_no HR.out ⟨rfl, HB.out⟩
end Go.Proofs.YtpgllcdcpdeicaaGreatDoor.Jt
