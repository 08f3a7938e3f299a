/- The contract of the document's own Parts: for every text of at most a thousand bytes. -/
import Derived.Test.YtojmjdgapfcjfaaDoorEtPrs
namespace Go.Proofs.YtojmjdgapfcjfaaDoor.Et
open Go.RowKit Ch
set_option linter.unusedSimpArgs false
set_option linter.unusedVariables false

/-- the parts between commas that stand in no quotes -/
def ptF (q : Bool) (w : List UInt8) : List UInt8 → List (List UInt8)
  | [] => [w]
  | c :: s => if c = 44 ∧ (if c = 34 then !q else q) = false then w :: ptF (if c = 34 then !q else q) [] s else ptF (if c = 34 then !q else q) (w ++ [c]) s
def stA (acc : List TagL) : List (List UInt8) → Option (List TagL)
  | [] => some acc
  | p :: ps => (stepL acc p).bind (fun a => stA a ps)
theorem refV_stA : ∀ (s : List UInt8) (q : Bool) (w : List UInt8) (acc : List TagL), refV q w acc s = stA acc (ptF q w s)
  | [], q, w, acc => by
    rw [refV, ptF, stA]
    cases stepL acc w <;> rfl
  | c :: s, q, w, acc => by
    rw [refV, ptF]
    generalize (if c = 34 then !q else q) = q'
    by_cases h : c = 44 ∧ q' = false
    · rw [if_pos h, if_pos h, stA]
      congr 1
      funext a
      exact refV_stA s q' [] a
    · rw [if_neg h, if_neg h]
      exact refV_stA s q' (w ++ [c]) acc
def ptL (l : List UInt8) : List (List UInt8) := ptF false [] l
/-- what is kept behind k bytes -/
def PtK (l : List UInt8) (k : Nat) (ps : List (List UInt8)) (t : List UInt8) (q : Bool) : Prop := ptL l = ps ++ ptF q t (l.drop k) ∧ ps.length ≤ k ∧ t.length ≤ k
theorem ptk_start (l : List UInt8) : PtK l 0 [] [] false := ⟨by simp [ptL], by simp, by simp⟩
theorem ptk_end {l : List UInt8} {k : Nat} {ps : List (List UInt8)} {t : List UInt8} {q : Bool} (h : PtK l k ps t q) (hk : l.length ≤ k) : ptL l = ps ++ [t] := by rw [h.1, List.drop_eq_nil_of_le hk]; rfl
theorem ptk_q {l : List UInt8} {k : Nat} {ps : List (List UInt8)} {t : List UInt8} {q : Bool} (h : PtK l k ps t q) (hk : k < l.length) (hc : l[k] = 34) : PtK l (k + 1) ps (t ++ [l[k]]) (!q) := by
  refine ⟨?_, by have := h.2.1; omega, by have := h.2.2; simp; omega⟩
  rw [h.1, List.drop_eq_getElem_cons hk, hc, ptF]
  simp
theorem ptk_n {l : List UInt8} {k : Nat} {ps : List (List UInt8)} {t : List UInt8} {q : Bool} (h : PtK l k ps t q) (hk : k < l.length) (hc : ¬ l[k] = 34) (hd : ¬ (l[k] = 44 ∧ q = false)) : PtK l (k + 1) ps (t ++ [l[k]]) q := by
  refine ⟨?_, by have := h.2.1; omega, by have := h.2.2; simp; omega⟩
  rw [h.1, List.drop_eq_getElem_cons hk, ptF, if_neg hc, if_neg hd]
theorem ptk_c {l : List UInt8} {k : Nat} {ps : List (List UInt8)} {t : List UInt8} (h : PtK l k ps t false) (hk : k < l.length) (hc : l[k] = 44) : PtK l (k + 1) (ps ++ [t]) [] false := by
  refine ⟨?_, by have := h.2.1; simp; omega, by simp⟩
  rw [h.1, List.drop_eq_getElem_cons hk, hc, ptF]
  simp
theorem ptF_len (q : Bool) : ∀ (s w : List UInt8) (q : Bool), (ptF q w s).length ≤ s.length + 1 ∧ 0 < (ptF q w s).length ∧ ∀ p ∈ ptF q w s, p.length ≤ w.length + s.length
  | [], w, q => by simp [ptF]
  | c :: s, w, q => by
    rw [ptF]
    generalize (if c = 34 then !q else q) = q'
    by_cases h : c = 44 ∧ q' = false
    · rw [if_pos h]
      obtain ⟨h1, h2, h3⟩ := ptF_len q s [] q'
      refine ⟨by simp; omega, by simp, fun p hp => ?_⟩
      rcases List.mem_cons.1 hp with rfl | hp
      · simp
      · have := h3 p hp; simp at this ⊢; omega
    · rw [if_neg h]
      obtain ⟨h1, h2, h3⟩ := ptF_len q s (w ++ [c]) q'
      exact ⟨by simp; omega, h2, fun p hp => by have := h3 p hp; simp at this ⊢; omega⟩
def PRl (B : Nat) (l : List UInt8) (w : World) (k : Nat) (v u b : Value) (wr : World) : Prop := ∃ (ps : List (List UInt8)) (t : ByteArray) (q : Bool), PtK l k ps t.data.toList q ∧ u = .string t ∧ b = .bool q ∧ wr.ownsRow B 9 1 v ps.length (vs ps) ∧ Below B w wr ∧ B ≤ wr.heap.size
theorem app_ext {s t : ByteArray} {k : Nat} (hk : k < s.size) (hl : k < s.data.toList.length) : (t ++ s.extract k (k + 1)).data.toList = t.data.toList ++ [s.data.toList[k]] := by
  rw [app_data, one_data hk, gdat s k hk]
set_option maxRecDepth 100000 in
set_option maxHeartbeats 4000000 in
theorem Parts_r (s : ByteArray) (w : World) (hs : s.size ≤ 1000) : Calls Tryd.prog 29 #[.string s] w (Owned w.heap.size (ptL s.data.toList) w) := by
  obtain ⟨i0, hi, hz0, hz1, hz2⟩ := info_parts info9
  have hsl := Lib.hid (Lib.size_eq s)
  have HST := Lib.hid (p := PRl w.heap.size s.data.toList w 0 (.slice (some ⟨w.heap.size, 0, none⟩) 0 0) (.string ⟨#[]⟩) (.bool false) (w.alloc (.cells #[] 9)))
    ⟨[], ⟨#[]⟩, false, ptk_start _, rfl, rfl, World.ownsRow_made w #[] 0 (Nat.le_refl _) (by unfold maxLen; omega) rfl, (Below.refl _ _).alloc (Nat.le_refl _) _, by simp⟩
  go_enter Tryd.func29, Tryd.ntmps29
  go_wp2
  go_loopw [3, 4, 5, 6] (fun v u b i wr => ∃ k : Nat, k ≤ s.size ∧ i = .int .i64 k ∧ PRl w.heap.size s.data.toList w k v u b wr) (fun _ _ _ i _ => s.size - (intOf i).toNat)
  case atStart => exact ⟨0, by omega, rfl, HST.out⟩
  case round =>
    clear HST
    obtain ⟨k, hk, rfl, ps, t, q, hP, rfl, rfl, hO, hB, hz⟩ := hrel
    have HO := Lib.hid hO
    have HP := Lib.hid hP
    have hpl := hP.2.1
    have htl : t.size ≤ 1000 := by have := hP.2.2; rw [← Lib.size_eq] at this; omega
    clear hP
    by_cases hlt : k < s.size
    · have hl : k < s.data.toList.length := by rw [← hsl.out]; exact hlt
      have hg := gdat s k hlt
      have HX := Lib.hid (app_ext (t := t) hlt hl)
      by_cases h34 : s[k] = 34
      · have HN := Lib.hid (ptk_q HP.out hl (hg.trans h34))
        have b34 : (((s[k].toNat : Nat) : Int) == 34) = true := by rw [h34]; rfl
        have b44 : (((s[k].toNat : Nat) : Int) == 44) = false := by rw [h34]; rfl
        clear hg h34
        cases q with
        | true =>
          go_wp2
          go_roundw
          case rel => exact ⟨k + 1, by omega, by go_num, ps, _, false, by rw [HX.out]; exact HN.out, rfl, rfl, HO.out, hB, hz⟩
          case measure => simp [intOf]; omega
        | false =>
          go_wp2
          go_roundw
          case rel => exact ⟨k + 1, by omega, by go_num, ps, _, true, by rw [HX.out]; exact HN.out, rfl, rfl, HO.out, hB, hz⟩
          case measure => simp [intOf]; omega
      · have b34 : (((s[k].toNat : Nat) : Int) == 34) = false := by
          have : ¬ ((s[k].toNat : Nat) : Int) = 34 := fun e => h34 (UInt8.toNat_inj.1 (by show s[k].toNat = 34; omega))
          simpa using this
        by_cases h44 : s[k] = 44
        · have b44 : (((s[k].toNat : Nat) : Int) == 44) = true := by rw [h44]; rfl
          cases q with
          | true =>
            have HN := Lib.hid (ptk_n HP.out hl (fun e => h34 (hg.symm.trans e)) (fun e => by cases e.2))
            clear hg h34 h44
            go_wp2
            go_roundw
            case rel => exact ⟨k + 1, by omega, by go_num, ps, _, true, by rw [HX.out]; exact HN.out, rfl, rfl, HO.out, hB, hz⟩
            case measure => simp [intOf]; omega
          | false =>
            have HN := Lib.hid (ptk_c HP.out hl (hg.trans h44))
            clear hg h34 h44
            go_wp2_with (at_builtin; refine wpList_append_own _ rfl _ _ 59 rfl w.heap.size 9 i0 (.string ByteArray.empty) 1 16 Tryd.underlying59 hi hz0 hz1 hz2 rfl (by decide) _ _ _ rfl (hO.alloc _) ⟨wr.heap.size, 0, none⟩ 1 1 [.string t] rfl rfl ?c1 ?c2 ?c3 ?c4 ?c5 ?_)
            case c1 =>
              intro j u hj
              match j, hj with
              | 0, hj => simp at hj; subst hj; simp [Addr.add]
            case c2 => intro u hu; simp at hu; subst hu; rfl
            case c3 => unfold maxLen; omega
            case c4 => omega
            case c5 => simp; omega
            · intro v' w1 hown' hgrow _
              have HR : Hid (PRl w.heap.size s.data.toList w (k + 1) v' (.string ⟨#[]⟩) (.bool false) w1) := by
                refine ⟨ps ++ [t.data.toList], ⟨#[]⟩, false, HN.out, rfl, rfl, ?_, hB.trans (((Below.refl _ _).alloc hz _).grown hgrow (by simp; omega) (fun q hq => (HO.out.lt q hq).1)), Nat.le_trans (Nat.le_trans hz (by simp)) hgrow.size⟩
                rw [vs_app]
                have e2 : (ps ++ [t.data.toList]).length = ps.length + 1 := by simp
                have e3 : vs [t.data.toList] = [.string t] := by simp [vs, ← mkS_of rfl]
                rw [e2, e3]
                exact hown'
              clear hown' hgrow hO
              go_wp2
              go_roundw
              case rel => exact ⟨k + 1, by omega, by go_num, HR.out⟩
              case measure => simp [intOf]; omega
        · have b44 : (((s[k].toNat : Nat) : Int) == 44) = false := by
            have : ¬ ((s[k].toNat : Nat) : Int) = 44 := fun e => h44 (UInt8.toNat_inj.1 (by show s[k].toNat = 44; omega))
            simpa using this
          have HN := Lib.hid (ptk_n HP.out hl (fun e => h34 (hg.symm.trans e)) (fun e => h44 (hg.symm.trans e.1)))
          clear hg h34 h44
          go_wp2
          go_roundw
          case rel => exact ⟨k + 1, by omega, by go_num, ps, _, q, by rw [HX.out]; exact HN.out, rfl, rfl, HO.out, hB, hz⟩
          case measure => simp [intOf]; omega
    · go_wp2_with (at_builtin; refine wpList_append_own _ rfl _ _ 59 rfl w.heap.size 9 i0 (.string ByteArray.empty) 1 16 Tryd.underlying59 hi hz0 hz1 hz2 rfl (by decide) _ _ _ rfl (hO.alloc _) ⟨wr.heap.size, 0, none⟩ 1 1 [.string t] rfl rfl ?d1 ?d2 ?d3 ?d4 ?d5 ?_)
      case d1 =>
        intro j u hj
        match j, hj with
        | 0, hj => simp at hj; subst hj; simp [Addr.add]
      case d2 => intro u hu; simp at hu; subst hu; rfl
      case d3 => unfold maxLen; omega
      case d4 => omega
      case d5 => simp; omega
      · intro v' w1 hown' hgrow _
        have HR : Hid (Owned w.heap.size (ptL s.data.toList) w (.returned v') w1) := by
          refine ⟨v', rfl, ?_, hB.trans (((Below.refl _ _).alloc hz _).grown hgrow (by simp; omega) (fun q hq => (HO.out.lt q hq).1))⟩
          rw [ptk_end HP.out (by rw [← hsl.out]; omega), vs_app]
          have e2 : (ps ++ [t.data.toList]).length = ps.length + 1 := by simp
          have e3 : vs [t.data.toList] = [.string t] := by simp [vs, ← mkS_of rfl]
          rw [e2, e3]
          exact hown'
        clear hown' hgrow hO
        go_wp2
        go_ret
        exact HR.out
end Go.Proofs.YtojmjdgapfcjfaaDoor.Et
