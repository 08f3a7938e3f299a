/- The contract of the document's own OfField: for every text of at most a thousand bytes. -/
import Derived.Test.YtolfenachbbjdaaDoorHdField
import Derived.IntWalk
namespace Go.Proofs.YtolfenachbbjdaaDoor.Hd
open Go.RowKit Ch
set_option linter.unusedSimpArgs false
set_option linter.unusedVariables false

theorem cutP_k {s : ByteArray} {k : Nat} (hk : k < s.size) (hn : ¬ 58 ∈ s.data.toList.take k) (h : s[k] = 58) : cutP 58 s.data.toList = (s.data.toList.take k, s.data.toList.drop (k + 1)) ∧ 58 ∈ s.data.toList := by
  have hl : k < s.data.toList.length := by rw [← Lib.size_eq]; exact hk
  have e : s.data.toList = s.data.toList.take k ++ 58 :: s.data.toList.drop (k + 1) := by
    conv => lhs; rw [← List.take_append_drop k s.data.toList]
    rw [List.drop_eq_getElem_cons hl, gdat s k hk, h]
  have := cutP_at (c := 58) (p := s.data.toList.take k) (q := s.data.toList.drop (k + 1)) hn
  rw [← e] at this
  refine ⟨this, ?_⟩
  rw [e]; simp
theorem no58_step {s : ByteArray} {k : Nat} (hk : k < s.size) (hn : ¬ 58 ∈ s.data.toList.take k) (h : ¬ s[k] = 58) : ¬ 58 ∈ s.data.toList.take (k + 1) := by
  have hl : k < s.data.toList.length := by rw [← Lib.size_eq]; exact hk
  rw [List.take_succ_eq_append_getElem hl, gdat s k hk]
  intro hm
  rcases List.mem_append.1 hm with h1 | h1
  · exact hn h1
  · simp at h1; exact h h1.symm
theorem valU_iff (c : UInt8) : valU c = (decide (c = 9) || (!decide ((c.toNat : Int) < 32) && !decide (c = 127))) := by
  unfold valU valI
  have e9 : ((c.toNat : Int) = 9) ↔ c = 9 := ⟨fun h => UInt8.toNat_inj.1 (by show c.toNat = 9; omega), fun h => by rw [h]; rfl⟩
  have e127 : ((c.toNat : Int) = 127) ↔ c = 127 := ⟨fun h => UInt8.toNat_inj.1 (by show c.toNat = 127; omega), fun h => by rw [h]; rfl⟩
  rw [Bool.eq_iff_iff]
  simp [e9, e127]
def VlR (l : List UInt8) (k i : Nat) : Prop := allU valU ((l.drop (k + 1)).take (i - (k + 1))) = true
theorem vlr_start (l : List UInt8) (k : Nat) : VlR l k (k + 1) := by unfold VlR; rw [show k + 1 - (k + 1) = 0 by omega]; rfl
theorem vlr_step {s : ByteArray} {k i : Nat} (hi : i < s.size) (hk : k + 1 ≤ i) (h : VlR s.data.toList k i) (hv : valU s[i] = true) : VlR s.data.toList k (i + 1) := by
  unfold VlR allU at *
  have hl : i - (k + 1) < (s.data.toList.drop (k + 1)).length := by rw [List.length_drop, ← Lib.size_eq]; omega
  rw [show i + 1 - (k + 1) = (i - (k + 1)) + 1 by omega, List.take_succ_eq_append_getElem hl, List.all_append, h]
  have e : (s.data.toList.drop (k + 1))[i - (k + 1)] = s[i] := by
    rw [List.getElem_drop]
    have := gdat s i hi
    rw [← this]
    congr 1
    omega
  rw [e]; simp [hv]
theorem vlr_bad {s : ByteArray} {k i : Nat} (hi : i < s.size) (hk : k + 1 ≤ i) (hv : valU s[i] = false) : allU valU (s.data.toList.drop (k + 1)) = false := by
  unfold allU
  rw [List.all_eq_false]
  have hl : i - (k + 1) < (s.data.toList.drop (k + 1)).length := by rw [List.length_drop, ← Lib.size_eq]; omega
  have e : (s.data.toList.drop (k + 1))[i - (k + 1)] = s[i] := by
    rw [List.getElem_drop]
    have := gdat s i hi
    rw [← this]
    congr 1
    omega
  exact ⟨s[i], by rw [← e]; exact List.getElem_mem _, by simp [hv]⟩
theorem vlr_end {s : ByteArray} {k i : Nat} (hi : s.size ≤ i) (h : VlR s.data.toList k i) : allU valU (s.data.toList.drop (k + 1)) = true := by
  unfold VlR at h
  rwa [List.take_of_length_le (by rw [List.length_drop, ← Lib.size_eq]; omega)] at h
/-- what a cell holds, by name alone -/
def cg (V : World) (p : Addr) : Value := (V.cell? p).getD (.bool false)
theorem cg_of {V : World} {p : Addr} {v : Value} (h : V.cell? p = some v) : V.cell? p = some (cg V p) := by unfold cg; rw [h]; rfl
theorem sk_of {V : World} {g : Nat} {a b : Value} {T : TypeId} (h : V.heap[g]? = some (.cells #[a, b] T (0, 0))) : V.cell? ⟨g, 0, none⟩ = some (cg V ⟨g, 0, none⟩) ∧ V.cell? ⟨g, 1, none⟩ = some (cg V ⟨g, 1, none⟩) ∧ V.frozen? ⟨g, 0, none⟩ = false ∧ V.frozen? ⟨g, 1, none⟩ = false :=
  ⟨cg_of (cell_of_row _ _ 0 _ _ _ h), cg_of (cell_of_row _ _ 1 _ _ _ h), frz2 h 0, frz2 h 1⟩
set_option maxRecDepth 100000 in
set_option maxHeartbeats 8000000 in
theorem OfFieldR_c (s : ByteArray) (w : World) (hs : s.size ≤ 5000000) : Calls Tryd.prog 28 #[.string s] w fun e w' => e = ofV (ofL s.data.toList) ∧ Below w.heap.size w w' := by
  generalize hq : ofV (ofL s.data.toList) = q
  have HQ := Lib.hid hq
  clear hq
  have hsl := Lib.hid (Lib.size_eq s)
  have HK := Lib.hid (heap_alloc_new w (.cells #[.string ⟨#[]⟩, .string ⟨#[]⟩] 64))
  have HB : Hid (Below w.heap.size w (w.alloc (.cells #[.string ⟨#[]⟩, .string ⟨#[]⟩] 64))) := (Below.refl _ _).alloc (Nat.le_refl _) _
  have hwz : w.heap.size < (w.alloc (.cells #[.string ⟨#[]⟩, .string ⟨#[]⟩] 64)).heap.size := by rw [World.size_alloc]; exact Nat.lt_succ_self _
  go_enter Tryd.func28, Tryd.ntmps28
  go_wp2
  revert HK HB hwz
  generalize w.alloc (.cells #[.string ⟨#[]⟩, .string ⟨#[]⟩] 64) = wn
  intro HK HB hwz
  go_loop [4] (fun i => ∃ k : Nat, k ≤ s.size ∧ i = .int .i64 k ∧ ¬ 58 ∈ s.data.toList.take k) (fun i => s.size - (intOf i).toNat)
  case atStart => exact ⟨0, by omega, rfl, by simp⟩
  case round =>
    obtain ⟨k, hk, rfl, hno⟩ := hrel
    have HN := Lib.hid hno
    clear hno
    by_cases hlt : k < s.size
    · have hk0 : (0 : Int) ≤ (k : Int) := by omega
      have hkl : (k : Int) < (s.size : Int) := by omega
      have e58 := bq s[k] 58 58 rfl
      by_cases h58 : s[k] = 58
      · obtain ⟨hcp, hmem⟩ := cutP_k hlt HN.out h58
        rw [decide_eq_true h58] at e58
        have n58 : (((s[k].toNat : Nat) : Int) != 58) = false := by simp only [bne, e58]; rfl
        have HX := Lib.hid (ext0 s k)
        have HY := Lib.hid (extN s (k + 1))
        have hz0 : (s.extract 0 k).size ≤ 5000000 := by rw [ByteArray.size_extract]; omega
        have HTK := Lib.hid (fun W => token_r (s.extract 0 k) W hz0)
        have hd : (s.extract 0 k).data.toList = s.data.toList.take k := by rw [ext0, data_mkS]
        rw [hd] at HTK
        have hne : decide (k = s.size) = false := by simp; omega
        have hne2 : ((k : Int) == (s.size : Int)) = false := beq_eq_false_iff_ne.2 (by omega)
        clear h58 hz0 hd
        cases htk : (allU tokU (s.data.toList.take k) && !(s.data.toList.take k).isEmpty) with
        | false =>
          have HR : Hid (q = .returned (.tuple #[.agg #[.string ⟨#[]⟩, .string ⟨#[]⟩], .bool false])) := by
            show q = _
            rw [← HQ.out]
            refine ofV_no ?_
            unfold ofL
            rw [hcp, if_neg]
            rintro ⟨_, g2, g3, _⟩
            simp only at g2 g3
            rw [g3] at htk
            cases hl : s.data.toList.take k with
            | nil => exact g2 hl
            | cons => rw [hl] at htk; simp at htk
          rw [htk] at HTK
          clear htk hcp hmem HQ
          have c0 := cell_of_row _ _ 0 _ _ _ HK.out
          have c1 := cell_of_row _ _ 1 _ _ _ HK.out
          go_wp2_with fail
          refine (HTK.out _).mono ?_
          rintro e w2 ⟨rfl, hb2⟩
          have HK2 : Hid (w2.heap[w.heap.size]? = some (.cells #[.string ⟨#[]⟩, .string ⟨#[]⟩] 64 (0, 0))) := (hb2.block _ hwz).trans HK.out
          have HB2 : Hid (Below w.heap.size w w2) := HB.out.trans (hb2.mono HB.out.size)
          clear hb2 c0 c1
          have c0 := cell_of_row _ _ 0 _ _ _ HK2.out
          have c1 := cell_of_row _ _ 1 _ _ _ HK2.out
          have z0 := frz2 HK2.out 0
          have z1 := frz2 HK2.out 1
          go_wp2
          have H2 := set2 HK2.out (.string ⟨#[]⟩) (.string ⟨#[]⟩)
          have d0 := cell_of_row _ _ 0 _ _ _ H2
          have d1 := cell_of_row _ _ 1 _ _ _ H2
          clear c0 c1 z0 z1
          refine bodyPost_ret (v := .tuple #[.agg #[.string ⟨#[]⟩, .string ⟨#[]⟩], .bool false]) (by simp [results, Tryd.results28, go_sem, d0, d1]) rfl ⟨HR.out.symm, ?_⟩
          exact (HB2.out.setCell (p := ⟨w.heap.size, 0, none⟩) (Nat.le_refl _) _).setCell (p := ⟨w.heap.size, 1, none⟩) (Nat.le_refl _) _
        | true =>
          have ha : allU tokU (s.data.toList.take k) = true ∧ s.data.toList.take k ≠ [] := by
            cases hl : s.data.toList.take k with
            | nil => rw [hl] at htk; simp at htk
            | cons => rw [hl] at htk; simp at htk; exact ⟨htk, by simp⟩
          have HNO : Hid (allU valU (s.data.toList.drop (k + 1)) = false → q = .returned (.tuple #[.agg #[.string ⟨#[]⟩, .string ⟨#[]⟩], .bool false])) := fun hv => by
            rw [← HQ.out]
            refine ofV_no ?_
            unfold ofL
            rw [hcp, if_neg]
            rintro ⟨_, _, _, g4⟩
            simp only at g4
            rw [hv] at g4; cases g4
          have HYE : Hid (allU valU (s.data.toList.drop (k + 1)) = true → q = .returned (.tuple #[.agg #[.string (s.extract 0 k), .string (mkS (trimL (s.data.toList.drop (k + 1))))], .bool true])) := fun hv => by
            rw [← HQ.out, HX.out]
            refine ofV_yes (x := (s.data.toList.take k, trimL (s.data.toList.drop (k + 1)))) ?_
            unfold ofL
            rw [hcp, if_pos ⟨hmem, ha.2, ha.1, hv⟩]
          have HTR := Lib.hid (fun W => trim_r (s.extract (k + 1) s.size) W (by unfold maxLen; rw [ByteArray.size_extract]; omega))
          rw [show (s.extract (k + 1) s.size).data.toList = s.data.toList.drop (k + 1) by rw [extN, data_mkS]] at HTR
          rw [htk] at HTK
          clear htk hcp hmem HQ ha HX HY
          have HST := Lib.hid (vlr_start s.data.toList k)
          have c0 := cell_of_row _ _ 0 _ _ _ HK.out
          have c1 := cell_of_row _ _ 1 _ _ _ HK.out
          go_wp2_with fail
          refine (HTK.out _).mono ?_
          rintro e w2 ⟨rfl, hb2⟩
          have HK2 : Hid (w2.heap[w.heap.size]? = some (.cells #[.string ⟨#[]⟩, .string ⟨#[]⟩] 64 (0, 0))) := (hb2.block _ hwz).trans HK.out
          have HB2 : Hid (Below w.heap.size w w2) := HB.out.trans (hb2.mono HB.out.size)
          clear hb2 c0 c1
          go_wp2
          go_loop [5] (fun v => ∃ i : Nat, k + 1 ≤ i ∧ i ≤ s.size ∧ v = .int .i64 i ∧ VlR s.data.toList k i) (fun v => s.size - (intOf v).toNat)
          case atStart => exact ⟨k + 1, by omega, by omega, by go_num, HST.out⟩
          case round =>
            clear HST
            obtain ⟨i, hi, hiz, rfl, hV⟩ := hrel
            have HV := Lib.hid hV
            clear hV
            have c0 := cell_of_row _ _ 0 _ _ _ HK2.out
            have c1 := cell_of_row _ _ 1 _ _ _ HK2.out
            have z0 := frz2 HK2.out 0
            have z1 := frz2 HK2.out 1
            by_cases hil : i < s.size
            · have hi0 : (0 : Int) ≤ (i : Int) := by omega
              have hii : (i : Int) < (s.size : Int) := by omega
              have e9 := bq s[i] 9 9 rfl
              have e127 := bq s[i] 127 127 rfl
              have hvi := valU_iff s[i]
              have HGO := Lib.hid (fun hv => vlr_step hil hi HV.out hv)
              have HBD := Lib.hid (fun hv => vlr_bad (k := k) hil hi hv)
              by_cases h9 : s[i] = 9
              · rw [decide_eq_true h9] at e9 hvi
                have n9 : (((s[i].toNat : Nat) : Int) != 9) = false := by simp only [bne, e9]; rfl
                have HS := Lib.hid (HGO.out (by rw [hvi]; rfl))
                clear h9 hvi HGO HBD e127
                go_wp2
                go_round
                case rel => exact ⟨i + 1, by omega, by omega, by go_num, HS.out⟩
                case measure => simp [intOf]; omega
              · rw [decide_eq_false h9] at e9 hvi
                have n9 : (((s[i].toNat : Nat) : Int) != 9) = true := by simp only [bne, e9]; rfl
                by_cases h32 : ((s[i].toNat : Nat) : Int) < 32
                · rw [decide_eq_true h32] at hvi
                  have HR := Lib.hid (HNO.out (HBD.out (by rw [hvi]; rfl)))
                  clear h9 hvi HGO HBD e127 HYE HNO
                  go_wp2
                  have H2 := set2 HK2.out (.string ⟨#[]⟩) (.string ⟨#[]⟩)
                  have d0 := cell_of_row _ _ 0 _ _ _ H2
                  have d1 := cell_of_row _ _ 1 _ _ _ H2
                  clear c0 c1 z0 z1
                  refine bodyPost_ret (v := .tuple #[.agg #[.string ⟨#[]⟩, .string ⟨#[]⟩], .bool false]) (by simp [results, Tryd.results28, go_sem, d0, d1]) rfl ⟨HR.out.symm, ?_⟩
                  exact (HB2.out.setCell (p := ⟨w.heap.size, 0, none⟩) (Nat.le_refl _) _).setCell (p := ⟨w.heap.size, 1, none⟩) (Nat.le_refl _) _
                · rw [decide_eq_false h32] at hvi
                  by_cases h127 : s[i] = 127
                  · rw [decide_eq_true h127] at e127 hvi
                    have HR := Lib.hid (HNO.out (HBD.out (by rw [hvi]; rfl)))
                    clear h9 hvi HGO HBD HYE HNO h127
                    go_wp2
                    have H2 := set2 HK2.out (.string ⟨#[]⟩) (.string ⟨#[]⟩)
                    have d0 := cell_of_row _ _ 0 _ _ _ H2
                    have d1 := cell_of_row _ _ 1 _ _ _ H2
                    clear c0 c1 z0 z1
                    refine bodyPost_ret (v := .tuple #[.agg #[.string ⟨#[]⟩, .string ⟨#[]⟩], .bool false]) (by simp [results, Tryd.results28, go_sem, d0, d1]) rfl ⟨HR.out.symm, ?_⟩
                    exact (HB2.out.setCell (p := ⟨w.heap.size, 0, none⟩) (Nat.le_refl _) _).setCell (p := ⟨w.heap.size, 1, none⟩) (Nat.le_refl _) _
                  · rw [decide_eq_false h127] at e127 hvi
                    have HS := Lib.hid (HGO.out (by rw [hvi]; rfl))
                    clear h9 hvi HGO HBD h127
                    go_wp2
                    go_round
                    case rel => exact ⟨i + 1, by omega, by omega, by go_num, HS.out⟩
                    case measure => simp [intOf]; omega
            · have HR := Lib.hid (HYE.out (vlr_end (by omega) HV.out))
              clear HYE HNO
              have hii : ¬ (i : Int) < (s.size : Int) := by omega
              have hk2 : (k : Int) ≤ (s.size : Int) := by omega
              have hk3 : (0 : Int) ≤ (k : Int) + 1 := by omega
              have hk4 : (k : Int) + 1 ≤ (s.size : Int) := by omega
              have hwr : IntKind.i64.wrap ((k : Int) + 1) = (k : Int) + 1 := IntWalk.i64_in _ (by omega)
              have htn : ((k : Int) + 1).toNat = k + 1 := by omega
              generalize mkS (trimL (s.data.toList.drop (k + 1))) = tv at HTR HR
              have HH := Lib.hid (set2 HK2.out (.string (s.extract 0 k)) (.string tv))
              go_wp2_with fail
              go_region_held3 (fun V => V.cell? ⟨w.heap.size, 0, none⟩ = some (cg V ⟨w.heap.size, 0, none⟩) ∧ V.cell? ⟨w.heap.size, 1, none⟩ = some (cg V ⟨w.heap.size, 1, none⟩) ∧ V.frozen? ⟨w.heap.size, 0, none⟩ = false ∧ V.frozen? ⟨w.heap.size, 1, none⟩ = false)
                (first | exact sk_of HK2.out | exact sk_of HH.out)
                (first | (go_at_call 43; refine (HTR.out _).mono ?_; rintro e w3 ⟨rfl, rfl⟩))
              have d0 := cell_of_row _ _ 0 _ _ _ HH.out
              have d1 := cell_of_row _ _ 1 _ _ _ HH.out
              clear c0 c1 z0 z1
              go_wp2
              refine bodyPost_ret (v := .tuple #[.agg #[.string (s.extract 0 k), .string tv], .bool true]) (by simp [results, Tryd.results28, go_sem, d0, d1]) rfl ⟨HR.out.symm, ?_⟩
              have hbb := (HB2.out.setCell (p := ⟨w.heap.size, 0, none⟩) (Nat.le_refl _) (.string (s.extract 0 k))).setCell (p := ⟨w.heap.size, 1, none⟩) (Nat.le_refl _) (.string tv)
              exact ⟨hbb.os, hbb.tape, hbb.output, hbb.size, hbb.block⟩
      · rw [decide_eq_false h58] at e58
        have n58 : (((s[k].toNat : Nat) : Int) != 58) = true := by simp only [bne, e58]; rfl
        have HS := Lib.hid (no58_step hlt HN.out h58)
        clear h58
        go_wp2
        go_round
        case rel => exact ⟨k + 1, by omega, by go_num, HS.out⟩
        case measure => simp [intOf]; omega
    · have h58 : ¬ 58 ∈ s.data.toList := by have := HN.out; rwa [List.take_of_length_le (by rw [← hsl.out]; omega)] at this
      have HR : Hid (q = .returned (.tuple #[.agg #[.string ⟨#[]⟩, .string ⟨#[]⟩], .bool false])) := by
        show q = _
        rw [← HQ.out]
        refine ofV_no ?_
        unfold ofL
        rw [if_neg (fun g => h58 g.1)]
      clear h58 HQ
      have hkl : ¬ (k : Int) < (s.size : Int) := by omega
      have hdk : decide (k < s.size) = false := by simpa using hlt
      obtain rfl : k = s.size := by omega
      have c0 := cell_of_row _ _ 0 _ _ _ HK.out
      have c1 := cell_of_row _ _ 1 _ _ _ HK.out
      have z0 := frz2 HK.out 0
      have z1 := frz2 HK.out 1
      go_wp2
      have H2 := set2 HK.out (.string ⟨#[]⟩) (.string ⟨#[]⟩)
      have d0 := cell_of_row _ _ 0 _ _ _ H2
      have d1 := cell_of_row _ _ 1 _ _ _ H2
      clear c0 c1 z0 z1
      refine bodyPost_ret (v := .tuple #[.agg #[.string ⟨#[]⟩, .string ⟨#[]⟩], .bool false]) (by simp [results, Tryd.results28, go_sem, d0, d1]) rfl ⟨HR.out.symm, ?_⟩
      exact (HB.out.setCell (p := ⟨w.heap.size, 0, none⟩) (Nat.le_refl _) _).setCell (p := ⟨w.heap.size, 1, none⟩) (Nat.le_refl _) _
end Go.Proofs.YtolfenachbbjdaaDoor.Hd
