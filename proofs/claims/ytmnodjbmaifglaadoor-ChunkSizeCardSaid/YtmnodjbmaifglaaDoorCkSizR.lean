/- The contract of the document's own Size: for every line of at most a thousand bytes. -/
import Derived.Test.YtmnodjbmaifglaaDoorCkAwk
namespace Go.Proofs.YtmnodjbmaifglaaDoor.Hd
open Go.RowKit Ch
set_option linter.unusedSimpArgs false
set_option linter.unusedVariables false

/-- where the first semicolon stands, or the end -/
def semN (l : List UInt8) : Nat := (l.takeWhile (· ≠ 59)).length
theorem sem_le (l : List UInt8) : semN l ≤ l.length := (List.takeWhile_sublist _).length_le
theorem sem_take (l : List UInt8) : l.take (semN l) = (cutP 59 l).1 := by
  have h := List.takeWhile_append_dropWhile (p := fun b : UInt8 => decide (b ≠ 59)) (l := l)
  have h2 : l.take (semN l) = (l.takeWhile (fun b : UInt8 => decide (b ≠ 59)) ++ l.dropWhile (fun b : UInt8 => decide (b ≠ 59))).take (semN l) := by rw [h]
  refine h2.trans ?_
  unfold semN cutP
  rw [List.take_append_of_le_length (Nat.le_refl _), List.take_length]
theorem sem_drop (l : List UInt8) : l.drop (semN l) = l.dropWhile (· ≠ 59) := by
  have h := List.takeWhile_append_dropWhile (p := fun b : UInt8 => decide (b ≠ 59)) (l := l)
  have h2 : l.drop (semN l) = (l.takeWhile (fun b : UInt8 => decide (b ≠ 59)) ++ l.dropWhile (fun b : UInt8 => decide (b ≠ 59))).drop (semN l) := by rw [h]
  refine h2.trans ?_
  unfold semN
  rw [List.drop_append_of_le_length (Nat.le_refl _), List.drop_length, List.nil_append]
theorem sem_stop : ∀ (l : List UInt8) (k : Nat), (∀ j, j < k → ∃ b, l[j]? = some b ∧ b ≠ 59) → (l.length ≤ k ∨ l[k]? = some 59) → k ≤ l.length → semN l = k
  | [], k, _, _, hk => by simp at hk; subst hk; rfl
  | x :: r, 0, _, h, _ => by
    rcases h with h | h
    · simp at h
    · simp at h; subst h; simp [semN]
  | x :: r, k + 1, hj, h, hk => by
    obtain ⟨b, hb, hb2⟩ := hj 0 (by omega)
    simp at hb
    subst hb
    have hr : semN r = k := sem_stop r k (fun j hjk => by obtain ⟨b, h1, h2⟩ := hj (j + 1) (by omega); exact ⟨b, by simpa using h1, h2⟩) (h.elim (fun h => .inl (by simp at h; omega)) (fun h => .inr (by simpa using h))) (by simp at hk; omega)
    unfold semN at hr ⊢
    rw [List.takeWhile_cons, if_pos (by simpa using hb2), List.length_cons, hr]
theorem sem_found {l : List UInt8} : (59 : UInt8) ∈ l ↔ semN l < l.length := by
  constructor
  · intro h
    rcases Nat.lt_or_ge (semN l) l.length with h' | h'
    · exact h'
    · have e : l.take (semN l) = l := List.take_of_length_le h'
      rw [sem_take] at e
      unfold cutP at e
      simp only at e
      rw [← e] at h
      have := List.all_eq_true.1 (List.all_takeWhile (p := fun b : UInt8 => decide (b ≠ 59)) (l := l)) 59 h
      simp at this
  · intro h
    cases hd : l.drop (semN l) with
    | nil => have := congrArg List.length hd; rw [List.length_drop] at this; simp at this; omega
    | cons x r =>
      have e := hd
      rw [sem_drop] at e
      have hx : x = 59 := by
        have := List.head?_dropWhile_not (p := fun b : UInt8 => decide (b ≠ 59)) l
        rw [e] at this
        simpa using this
      subst hx
      exact List.mem_of_mem_drop (by rw [hd]; exact List.mem_cons_self)
/-- behind the semicolon all may stand there just if from it on all may -/
theorem sem_all (l : List UInt8) : allU valU (l.drop (semN l)) = allU valU (cutP 59 l).2 := by
  rw [sem_drop]
  unfold cutP allU
  cases h : l.dropWhile (· ≠ 59) with
  | nil => rfl
  | cons x r =>
    have hx : x = 59 := by
      have := List.head?_dropWhile_not (p := fun b : UInt8 => decide (b ≠ 59)) l
      rw [h] at this
      simpa using this
    subst hx
    simp [show valU 59 = true from by decide]
def VsR (l : List UInt8) (k i : Nat) : Prop := allU valU ((l.drop k).take (i - k)) = true
theorem vsr_start (l : List UInt8) (k : Nat) : VsR l k k := by unfold VsR; rw [Nat.sub_self]; rfl
theorem vsr_at {s : ByteArray} {k i : Nat} (hi : i < s.size) (hk : k ≤ i) : ∃ h : i - k < (s.data.toList.drop k).length, (s.data.toList.drop k)[i - k]'h = s[i] := by
  have hl : i - k < (s.data.toList.drop k).length := by rw [List.length_drop, ← Lib.size_eq]; omega
  refine ⟨hl, ?_⟩
  rw [List.getElem_drop]
  have := gdat s i hi
  rw [← this]
  congr 1
  omega
theorem vsr_step {s : ByteArray} {k i : Nat} (hi : i < s.size) (hk : k ≤ i) (h : VsR s.data.toList k i) (hv : valU s[i] = true) : VsR s.data.toList k (i + 1) := by
  unfold VsR allU at *
  obtain ⟨hl, e⟩ := vsr_at hi hk
  rw [show i + 1 - k = (i - k) + 1 by omega, List.take_succ_eq_append_getElem hl, List.all_append, h, e]
  simp [hv]
theorem vsr_bad {s : ByteArray} {k i : Nat} (hi : i < s.size) (hk : k ≤ i) (hv : valU s[i] = false) : allU valU (s.data.toList.drop k) = false := by
  unfold allU
  rw [List.all_eq_false]
  obtain ⟨hl, e⟩ := vsr_at hi hk
  exact ⟨s[i], by rw [← e]; exact List.getElem_mem _, by simp [hv]⟩
theorem vsr_end {s : ByteArray} {k i : Nat} (hi : s.size ≤ i) (h : VsR s.data.toList k i) : allU valU (s.data.toList.drop k) = true := by
  unfold VsR at h
  rwa [List.take_of_length_le (by rw [List.length_drop, ← Lib.size_eq]; omega)] at h
theorem trm_step {l : List UInt8} {x : UInt8} (hx : ([32, 9] : List UInt8).contains x = true) : Lib.trimRightS (l ++ [x]) [32, 9] = Lib.trimRightS l [32, 9] := by
  unfold Lib.trimRightS
  rw [List.reverse_append, List.reverse_singleton, List.singleton_append, List.dropWhile_cons_of_pos hx]
theorem trm_stop {l : List UInt8} {x : UInt8} (hx : ([32, 9] : List UInt8).contains x = false) : Lib.trimRightS (l ++ [x]) [32, 9] = l ++ [x] := by
  unfold Lib.trimRightS
  rw [List.reverse_append, List.reverse_singleton, List.singleton_append, List.dropWhile_cons_of_neg (by simp only [hx]; decide), ← List.singleton_append, List.reverse_append, List.reverse_reverse, List.reverse_singleton]
/-- what stands ahead of the semicolon, some blanks taken away -/
def TrR (l : List UInt8) (k : Nat) (d : List UInt8) : Prop := (k < l.length → Lib.trimRightS (l.take k) [32, 9] = Lib.trimRightS d [32, 9]) ∧ (k = l.length → d = l.take k) ∧ d.length ≤ k
theorem last_split {d : ByteArray} (h : 0 < d.size) : d.data.toList = (d.extract 0 (d.size - 1)).data.toList ++ [d[d.size - 1]'(by omega)] := by
  have hl : d.size - 1 < d.data.toList.length := by rw [← Lib.size_eq]; omega
  have h1 := List.take_succ_eq_append_getElem hl
  rw [show d.size - 1 + 1 = d.size by omega, List.take_of_length_le (by rw [← Lib.size_eq]; exact Nat.le_refl _), gdat d (d.size - 1) (by omega)] at h1
  rw [ext0, data_mkS]
  exact h1
theorem trr_step {l : List UInt8} {k : Nat} {d : ByteArray} (h : TrR l k d.data.toList) (hk : k < l.length) (hd : 0 < d.size) (hx : ([32, 9] : List UInt8).contains (d[d.size - 1]'(by omega)) = true) : TrR l k (d.extract 0 (d.size - 1)).data.toList := by
  have e := last_split hd
  refine ⟨fun h' => ?_, fun h' => by omega, ?_⟩
  · rw [h.1 h', e, trm_step hx]
  · have h3 := h.2.2
    rw [e, List.length_append] at h3
    omega
theorem trr_stop {l : List UInt8} {k : Nat} {d : ByteArray} (h : TrR l k d.data.toList) (hks : k = semN l) (hs : ¬ k < l.length ∨ d.size = 0 ∨ ∃ h : 0 < d.size, ([32, 9] : List UInt8).contains (d[d.size - 1]'(by omega)) = false) : szD l = d.data.toList := by
  have hle := sem_le l
  unfold szD
  rw [← sem_take, ← hks]
  by_cases hk : k < l.length
  · rw [if_pos (sem_found.2 (by rw [← hks]; exact hk)), h.1 hk]
    rcases hs with hs | hs | ⟨h0, hx⟩
    · exact absurd hk hs
    · have : d.data.toList = [] := List.length_eq_zero_iff.1 (by rw [← Lib.size_eq]; exact hs)
      rw [this]; rfl
    · rw [last_split h0, trm_stop hx]
  · rw [if_neg (fun hm => hk (by rw [hks]; exact sem_found.1 hm)), h.2.1 (by omega)]
def strN (v : Value) : Nat := match v with | .string d => d.size | _ => 0
theorem rd_three (l : List UInt8) : Nu.rdE 16 2147483647 l = 0 ∨ Nu.rdE 16 2147483647 l = 3 ∨ Nu.rdE 16 2147483647 l = 5 := by
  unfold Nu.rdE; split
  · split
    · exact .inl rfl
    · exact .inr (.inr rfl)
  · exact .inr (.inl rfl)
set_option maxRecDepth 100000 in
set_option maxHeartbeats 8000000 in
theorem SizeR_q (s : ByteArray) (most z x : Int) (w : World) (hs : s.size ≤ 1000) (hq : Hid (szL s.data.toList most = (z, x))) : Calls Tryd.prog 14 #[.string s, .int .i64 most] w fun e w' => e = .returned (.tuple #[.int .i64 z, .int .i64 x]) ∧ Below w.heap.size w w' := by
  have hsl := Lib.hid (Lib.size_eq s)
  go_enter Tryd.func14, Tryd.ntmps14
  go_wp2
  go_loop [6] (fun i => ∃ k : Nat, k ≤ s.size ∧ i = .int .i64 k ∧ ∀ j, j < k → ∃ b, s.data.toList[j]? = some b ∧ b ≠ 59) (fun i => s.size - (intOf i).toNat)
  case atStart => exact ⟨0, by omega, rfl, fun j hj => by omega⟩
  case round =>
    obtain ⟨k, hk, rfl, hno⟩ := hrel
    have HN := Lib.hid hno
    clear hno
    have hk0 : (0 : Int) ≤ (k : Int) := by omega
    by_cases hgo : ∃ h : k < s.size, s[k]'h ≠ 59
    · obtain ⟨hlt, h59⟩ := hgo
      have hkl : (k : Int) < (s.size : Int) := by omega
      have e59 := bq s[k] 59 59 rfl
      rw [decide_eq_false h59] at e59
      have n59 : (((s[k].toNat : Nat) : Int) != 59) = true := by simp only [bne, e59]; rfl
      have HS : Hid (∀ j, j < k + 1 → ∃ b, s.data.toList[j]? = some b ∧ b ≠ 59) := fun j hj => by
        rcases Nat.lt_or_ge j k with h | h
        · exact HN.out j h
        · obtain rfl : j = k := by omega
          exact ⟨s[j], at_q s j hlt, h59⟩
      clear h59
      go_wp2
      go_round
      case rel => exact ⟨k + 1, by omega, by go_num, HS.out⟩
      case measure => simp [intOf]; omega
    · have hst : (¬ k < s.size) ∨ ∃ h : k < s.size, s[k]'h = 59 := by
        by_cases h : k < s.size
        · exact .inr ⟨h, Classical.not_not.1 (fun h2 => hgo ⟨h, h2⟩)⟩
        · exact .inl h
      have HSM : Hid (k = semN s.data.toList) := (sem_stop _ k HN.out (by
        rcases hst with h | ⟨h, h2⟩
        · left; rw [← hsl.out]; omega
        · right; rw [at_q s k h, h2]) (by rw [← hsl.out]; exact hk)).symm
      have HAL := Lib.hid (sem_all s.data.toList)
      rw [← HSM.out] at HAL
      have hkz : (k : Int) ≤ (s.size : Int) := by omega
      clear hgo HN
      rcases hst with hkn | ⟨hlt, h59⟩
      · have hkl : ¬ (k : Int) < (s.size : Int) := by omega
        have hdk : decide (k < s.size) = false := by simpa using hkn
        go_wp2
        clear hdk
        go_loop [7] (fun v => ∃ i : Nat, k ≤ i ∧ i ≤ s.size ∧ v = .int .i64 i ∧ VsR s.data.toList k i) (fun v => s.size - (intOf v).toNat)
        case atStart => exact ⟨k, Nat.le_refl _, hk, rfl, vsr_start _ _⟩
        case round =>
          obtain ⟨i, hki, hi, rfl, hv⟩ := hrel
          have HV := Lib.hid hv
          clear hv
          have hi0 : (0 : Int) ≤ (i : Int) := by omega
          by_cases hlt : i < s.size
          · have hil : (i : Int) < (s.size : Int) := by omega
            have hvi := valU_iff s[i]
            have HGO : Hid (valU s[i] = true → VsR s.data.toList k (i + 1)) := fun h => vsr_step hlt hki HV.out h
            have HBD : Hid (valU s[i] = false → z = 0 ∧ x = 400) := fun h => by
              have hb := vsr_bad hlt hki h
              have e := hq.out
              unfold szL at e
              rw [if_pos (.inr (by rw [← HAL.out]; exact hb))] at e
              injection e with e1 e2
              exact ⟨e1.symm, e2.symm⟩
            have e9 := bq s[i] 9 9 rfl
            have e127 := bq s[i] 127 127 rfl
            by_cases h9 : s[i] = 9
            · rw [decide_eq_true h9] at e9 hvi
              have n9 : (((s[i].toNat : Nat) : Int) != 9) = false := by simp only [bne, e9]; rfl
              have HS := Lib.hid (HGO.out (by rw [hvi]; rfl))
              clear h9 hvi HGO HBD e127
              go_wp2
              go_round
              case rel => exact ⟨i + 1, by omega, by omega, by go_num, HS.out⟩
              case measure => simp [intOf]; omega
            · rw [decide_eq_false h9] at e9 hvi
              have n9 : (((s[i].toNat : Nat) : Int) != 9) = true := by simp only [bne, e9]; rfl
              by_cases h32 : ((s[i].toNat : Nat) : Int) < 32
              · rw [decide_eq_true h32] at hvi
                obtain ⟨rfl, rfl⟩ := HBD.out (by rw [hvi]; rfl)
                clear h9 hvi HGO HBD e127
                go_wp2
                go_ret2
                exact ⟨rfl, Below.refl _ _⟩
              · rw [decide_eq_false h32] at hvi
                by_cases h127 : s[i] = 127
                · rw [decide_eq_true h127] at e127 hvi
                  obtain ⟨rfl, rfl⟩ := HBD.out (by rw [hvi]; rfl)
                  clear h9 hvi HGO HBD h127
                  go_wp2
                  go_ret2
                  exact ⟨rfl, Below.refl _ _⟩
                · rw [decide_eq_false h127] at e127 hvi
                  have HS := Lib.hid (HGO.out (by rw [hvi]; rfl))
                  clear h9 hvi HGO HBD h127
                  go_wp2
                  go_round
                  case rel => exact ⟨i + 1, by omega, by omega, by go_num, HS.out⟩
                  case measure => simp [intOf]; omega
          · have HVE := Lib.hid (vsr_end (by omega) HV.out)
            have hil : ¬ (i : Int) < (s.size : Int) := by omega
            have hdi : decide (i < s.size) = false := by simpa using hlt
            have HQ2 : Hid (∀ d, szD s.data.toList = d → (if Nu.rdE 16 2147483647 d = 3 then ((0 : Int), (400 : Int)) else if Nu.rdE 16 2147483647 d = 5 ∨ most < Nu.rdN 16 2147483647 d then (0, 413) else (Nu.rdN 16 2147483647 d, 0)) = (z, x)) := fun d hd => by
              have e := hq.out
              unfold szL at e
              rw [hd, show allU valU (cutP 59 s.data.toList).2 = true from by rw [← HAL.out]; exact HVE.out] at e
              simpa using e
            have HX0 := Lib.hid (ext0 s k)
            go_wp2
            clear hil hdi HVE HV hlt
            go_loop [8] (fun v => ∃ d : ByteArray, v = .string d ∧ TrR s.data.toList k d.data.toList) (fun v => strN v)
            case atStart => exact ⟨_, rfl, by rw [HX0.out, data_mkS]; exact ⟨fun _ => rfl, fun _ => rfl, by rw [List.length_take]; omega⟩⟩
            case round =>
              obtain ⟨d, rfl, hT⟩ := hrel
              have HT := Lib.hid hT
              have hdk : d.size ≤ k := by rw [Lib.size_eq]; exact hT.2.2
              have hd1000 : d.size ≤ 1000 := by omega
              clear hT
              have HFIN : Hid (szD s.data.toList = d.data.toList → ∀ W, Calls Tryd.prog 27 #[.string d] W fun ev w' => (∃ e n, ev = .returned (.tuple #[.int .i64 n, .int .i64 e]) ∧ ((e = 3 ∧ z = 0 ∧ x = 400) ∨ (e ≠ 3 ∧ (e ≠ 0 ∨ most < n) ∧ z = 0 ∧ x = 413) ∨ (e = 0 ∧ n ≤ most ∧ z = n ∧ x = 0))) ∧ Below W.heap.size W w') := fun hd W => by
                refine (Nu.hex_r d W (by omega)).mono fun ev w' hh => ⟨⟨_, _, hh.1, ?_⟩, hh.2⟩
                have hq2 := HQ2.out _ hd
                have hE := rd_three d.data.toList
                by_cases h3 : Nu.rdE 16 2147483647 d.data.toList = 3
                · rw [if_pos h3] at hq2
                  injection hq2 with e1 e2
                  exact .inl ⟨h3, e1.symm, e2.symm⟩
                · rw [if_neg h3] at hq2
                  by_cases h5 : Nu.rdE 16 2147483647 d.data.toList = 5 ∨ most < Nu.rdN 16 2147483647 d.data.toList
                  · rw [if_pos h5] at hq2
                    injection hq2 with e1 e2
                    exact .inr (.inl ⟨h3, h5.elim (fun h => .inl (by omega)) .inr, e1.symm, e2.symm⟩)
                  · rw [if_neg h5] at hq2
                    injection hq2 with e1 e2
                    exact .inr (.inr ⟨by omega, by omega, e1.symm, e2.symm⟩)
              by_cases hA : k < s.size ∧ 0 < d.size
              · exfalso; have := hA.1; omega
              · have hs' := Lib.hid (HFIN.out (trr_stop HT.out HSM.out (by
                  by_cases h : k < s.size
                  · right; left; have : ¬ 0 < d.size := fun h2 => hA ⟨h, h2⟩; omega
                  · left; rw [← hsl.out]; exact h)))
                by_cases hA1 : k < s.size
                · exfalso; omega
                · have hAi : ¬ (k : Int) < (s.size : Int) := by omega
                  have hAd : decide (k < s.size) = false := by simpa using hA1
                  have HF := hs'
                  clear hs' HFIN HT hA
                  go_wp2_with fail
                  refine (HF.out _).mono ?_
                  rintro ev w3 ⟨⟨e, n, rfl, hc⟩, hb3⟩
                  have HB3 := Lib.hid hb3
                  clear hb3 HF
                  rcases hc with ⟨h3, rfl, rfl⟩ | ⟨h3, hm, rfl, rfl⟩ | ⟨h3, hm, rfl, rfl⟩
                  · subst h3
                    go_wp2
                    go_ret2
                    exact ⟨rfl, HB3.out⟩
                  · have h3' : (e == 3) = false := beq_eq_false_iff_ne.2 h3
                    by_cases h0 : e = 0
                    · subst h0
                      have hm2 : most < n := by omega
                      go_wp2
                      go_ret2
                      exact ⟨rfl, HB3.out⟩
                    · have h0' : (e == 0) = false := beq_eq_false_iff_ne.2 h0
                      have h0'' : (e != 0) = true := bne_iff_ne.2 h0
                      go_wp2
                      go_ret2
                      exact ⟨rfl, HB3.out⟩
                  · subst h3
                    go_wp2
                    go_ret2
                    exact ⟨rfl, HB3.out⟩
      · have hkl : (k : Int) < (s.size : Int) := by omega
        have e59 := bq s[k] 59 59 rfl
        rw [decide_eq_true h59] at e59
        have n59 : (((s[k].toNat : Nat) : Int) != 59) = false := by simp only [bne, e59]; rfl
        clear h59
        go_wp2
        clear e59 n59
        go_loop [7] (fun v => ∃ i : Nat, k ≤ i ∧ i ≤ s.size ∧ v = .int .i64 i ∧ VsR s.data.toList k i) (fun v => s.size - (intOf v).toNat)
        case atStart => exact ⟨k, Nat.le_refl _, hk, rfl, vsr_start _ _⟩
        case round =>
          obtain ⟨i, hki, hi, rfl, hv⟩ := hrel
          have HV := Lib.hid hv
          clear hv
          have hi0 : (0 : Int) ≤ (i : Int) := by omega
          by_cases hlt : i < s.size
          · have hil : (i : Int) < (s.size : Int) := by omega
            have hvi := valU_iff s[i]
            have HGO : Hid (valU s[i] = true → VsR s.data.toList k (i + 1)) := fun h => vsr_step hlt hki HV.out h
            have HBD : Hid (valU s[i] = false → z = 0 ∧ x = 400) := fun h => by
              have hb := vsr_bad hlt hki h
              have e := hq.out
              unfold szL at e
              rw [if_pos (.inr (by rw [← HAL.out]; exact hb))] at e
              injection e with e1 e2
              exact ⟨e1.symm, e2.symm⟩
            have e9 := bq s[i] 9 9 rfl
            have e127 := bq s[i] 127 127 rfl
            by_cases h9 : s[i] = 9
            · rw [decide_eq_true h9] at e9 hvi
              have n9 : (((s[i].toNat : Nat) : Int) != 9) = false := by simp only [bne, e9]; rfl
              have HS := Lib.hid (HGO.out (by rw [hvi]; rfl))
              clear h9 hvi HGO HBD e127
              go_wp2
              go_round
              case rel => exact ⟨i + 1, by omega, by omega, by go_num, HS.out⟩
              case measure => simp [intOf]; omega
            · rw [decide_eq_false h9] at e9 hvi
              have n9 : (((s[i].toNat : Nat) : Int) != 9) = true := by simp only [bne, e9]; rfl
              by_cases h32 : ((s[i].toNat : Nat) : Int) < 32
              · rw [decide_eq_true h32] at hvi
                obtain ⟨rfl, rfl⟩ := HBD.out (by rw [hvi]; rfl)
                clear h9 hvi HGO HBD e127
                go_wp2
                go_ret2
                exact ⟨rfl, Below.refl _ _⟩
              · rw [decide_eq_false h32] at hvi
                by_cases h127 : s[i] = 127
                · rw [decide_eq_true h127] at e127 hvi
                  obtain ⟨rfl, rfl⟩ := HBD.out (by rw [hvi]; rfl)
                  clear h9 hvi HGO HBD h127
                  go_wp2
                  go_ret2
                  exact ⟨rfl, Below.refl _ _⟩
                · rw [decide_eq_false h127] at e127 hvi
                  have HS := Lib.hid (HGO.out (by rw [hvi]; rfl))
                  clear h9 hvi HGO HBD h127
                  go_wp2
                  go_round
                  case rel => exact ⟨i + 1, by omega, by omega, by go_num, HS.out⟩
                  case measure => simp [intOf]; omega
          · have HVE := Lib.hid (vsr_end (by omega) HV.out)
            have hil : ¬ (i : Int) < (s.size : Int) := by omega
            have hdi : decide (i < s.size) = false := by simpa using hlt
            have HQ2 : Hid (∀ d, szD s.data.toList = d → (if Nu.rdE 16 2147483647 d = 3 then ((0 : Int), (400 : Int)) else if Nu.rdE 16 2147483647 d = 5 ∨ most < Nu.rdN 16 2147483647 d then (0, 413) else (Nu.rdN 16 2147483647 d, 0)) = (z, x)) := fun d hd => by
              have e := hq.out
              unfold szL at e
              rw [hd, show allU valU (cutP 59 s.data.toList).2 = true from by rw [← HAL.out]; exact HVE.out] at e
              simpa using e
            have HX0 := Lib.hid (ext0 s k)
            go_wp2
            clear hil hdi HVE HV hlt
            go_loop [8] (fun v => ∃ d : ByteArray, v = .string d ∧ TrR s.data.toList k d.data.toList) (fun v => strN v)
            case atStart => exact ⟨_, rfl, by rw [HX0.out, data_mkS]; exact ⟨fun _ => rfl, fun _ => rfl, by rw [List.length_take]; omega⟩⟩
            case round =>
              obtain ⟨d, rfl, hT⟩ := hrel
              have HT := Lib.hid hT
              have hdk : d.size ≤ k := by rw [Lib.size_eq]; exact hT.2.2
              have hd1000 : d.size ≤ 1000 := by omega
              clear hT
              have HFIN : Hid (szD s.data.toList = d.data.toList → ∀ W, Calls Tryd.prog 27 #[.string d] W fun ev w' => (∃ e n, ev = .returned (.tuple #[.int .i64 n, .int .i64 e]) ∧ ((e = 3 ∧ z = 0 ∧ x = 400) ∨ (e ≠ 3 ∧ (e ≠ 0 ∨ most < n) ∧ z = 0 ∧ x = 413) ∨ (e = 0 ∧ n ≤ most ∧ z = n ∧ x = 0))) ∧ Below W.heap.size W w') := fun hd W => by
                refine (Nu.hex_r d W (by omega)).mono fun ev w' hh => ⟨⟨_, _, hh.1, ?_⟩, hh.2⟩
                have hq2 := HQ2.out _ hd
                have hE := rd_three d.data.toList
                by_cases h3 : Nu.rdE 16 2147483647 d.data.toList = 3
                · rw [if_pos h3] at hq2
                  injection hq2 with e1 e2
                  exact .inl ⟨h3, e1.symm, e2.symm⟩
                · rw [if_neg h3] at hq2
                  by_cases h5 : Nu.rdE 16 2147483647 d.data.toList = 5 ∨ most < Nu.rdN 16 2147483647 d.data.toList
                  · rw [if_pos h5] at hq2
                    injection hq2 with e1 e2
                    exact .inr (.inl ⟨h3, h5.elim (fun h => .inl (by omega)) .inr, e1.symm, e2.symm⟩)
                  · rw [if_neg h5] at hq2
                    injection hq2 with e1 e2
                    exact .inr (.inr ⟨by omega, by omega, e1.symm, e2.symm⟩)
              by_cases hA : k < s.size ∧ 0 < d.size
              · obtain ⟨hA1, h0⟩ := hA
                have hAi : (k : Int) < (s.size : Int) := by omega
                have g0 : (0 : Int) < (d.size : Int) := by omega
                have g1 : (0 : Int) ≤ (d.size : Int) - 1 := by omega
                have g2 : (d.size : Int) - 1 < (d.size : Int) := by omega
                have g3 : (d.size : Int) - 1 ≤ (d.size : Int) := by omega
                have g4 : ((d.size : Int) - 1).toNat = d.size - 1 := by omega
                have g6 : d.size - 1 < d.size := by omega
                have g5 : IntKind.i64.wrap ((d.size : Int) - 1) = (d.size : Int) - 1 := IntWalk.i64_in _ (by omega)
                have e32 := bq (d[d.size - 1]'g6) 32 32 rfl
                have e9 := bq (d[d.size - 1]'g6) 9 9 rfl
                have HSP : Hid (([32, 9] : List UInt8).contains (d[d.size - 1]'g6) = true → TrR s.data.toList k (d.extract 0 (d.size - 1)).data.toList) := fun h => trr_step HT.out (by rw [← hsl.out]; exact hA1) h0 h
                have HSO : Hid (([32, 9] : List UInt8).contains (d[d.size - 1]'g6) = false → szD s.data.toList = d.data.toList) := fun h => trr_stop HT.out HSM.out (.inr (.inr ⟨h0, h⟩))
                have HZ : Hid (strN (.string (d.extract 0 (d.size - 1))) < strN (.string d)) := by show (d.extract 0 (d.size - 1)).size < d.size; rw [ByteArray.size_extract]; omega
                by_cases h32 : d[d.size - 1]'g6 = 32
                · rw [decide_eq_true h32] at e32
                  have HN := Lib.hid (HSP.out (by rw [h32]; decide))
                  clear h32 e9 HSP HSO HFIN
                  go_wp2
                  go_round
                  case rel => exact ⟨_, rfl, HN.out⟩
                  case measure => exact HZ.out
                · rw [decide_eq_false h32] at e32
                  by_cases h9 : d[d.size - 1]'g6 = 9
                  · rw [decide_eq_true h9] at e9
                    have HN := Lib.hid (HSP.out (by rw [h9]; decide))
                    clear h32 h9 HSP HSO HFIN
                    go_wp2
                    go_round
                    case rel => exact ⟨_, rfl, HN.out⟩
                    case measure => exact HZ.out
                  · rw [decide_eq_false h9] at e9
                    have HF := Lib.hid (HFIN.out (HSO.out (by simp [h32, h9])))
                    clear h32 h9 HSP HSO HFIN HZ HT
                    go_wp2_with fail
                    refine (HF.out _).mono ?_
                    rintro ev w3 ⟨⟨e, n, rfl, hc⟩, hb3⟩
                    have HB3 := Lib.hid hb3
                    clear hb3 HF
                    rcases hc with ⟨h3, rfl, rfl⟩ | ⟨h3, hm, rfl, rfl⟩ | ⟨h3, hm, rfl, rfl⟩
                    · subst h3
                      go_wp2
                      go_ret2
                      exact ⟨rfl, HB3.out⟩
                    · have h3' : (e == 3) = false := beq_eq_false_iff_ne.2 h3
                      by_cases h0 : e = 0
                      · subst h0
                        have hm2 : most < n := by omega
                        go_wp2
                        go_ret2
                        exact ⟨rfl, HB3.out⟩
                      · have h0' : (e == 0) = false := beq_eq_false_iff_ne.2 h0
                        have h0'' : (e != 0) = true := bne_iff_ne.2 h0
                        go_wp2
                        go_ret2
                        exact ⟨rfl, HB3.out⟩
                    · subst h3
                      go_wp2
                      go_ret2
                      exact ⟨rfl, HB3.out⟩
              · have hs' := Lib.hid (HFIN.out (trr_stop HT.out HSM.out (by
                  by_cases h : k < s.size
                  · right; left; have : ¬ 0 < d.size := fun h2 => hA ⟨h, h2⟩; omega
                  · left; rw [← hsl.out]; exact h)))
                by_cases hA1 : k < s.size
                · have hAi : (k : Int) < (s.size : Int) := by omega
                  have hz0 : d.size = 0 := by have : ¬ 0 < d.size := fun h2 => hA ⟨hA1, h2⟩; omega
                  have g0 : ((0 : Int) < (d.size : Int)) = False := eq_false (by omega)
                  have HF := hs'
                  clear hs' HFIN HT hA
                  go_wp2_with fail
                  refine (HF.out _).mono ?_
                  rintro ev w3 ⟨⟨e, n, rfl, hc⟩, hb3⟩
                  have HB3 := Lib.hid hb3
                  clear hb3 HF
                  rcases hc with ⟨h3, rfl, rfl⟩ | ⟨h3, hm, rfl, rfl⟩ | ⟨h3, hm, rfl, rfl⟩
                  · subst h3
                    go_wp2
                    go_ret2
                    exact ⟨rfl, HB3.out⟩
                  · have h3' : (e == 3) = false := beq_eq_false_iff_ne.2 h3
                    by_cases h0 : e = 0
                    · subst h0
                      have hm2 : most < n := by omega
                      go_wp2
                      go_ret2
                      exact ⟨rfl, HB3.out⟩
                    · have h0' : (e == 0) = false := beq_eq_false_iff_ne.2 h0
                      have h0'' : (e != 0) = true := bne_iff_ne.2 h0
                      go_wp2
                      go_ret2
                      exact ⟨rfl, HB3.out⟩
                  · subst h3
                    go_wp2
                    go_ret2
                    exact ⟨rfl, HB3.out⟩
                · exfalso; omega
theorem SizeR_c (s : ByteArray) (most : Int) (w : World) (hs : s.size ≤ 1000) : Calls Tryd.prog 14 #[.string s, .int .i64 most] w fun e w' => e = .returned (.tuple #[.int .i64 (szL s.data.toList most).1, .int .i64 (szL s.data.toList most).2]) ∧ Below w.heap.size w w' := SizeR_q s most _ _ w hs (Lib.hid rfl)
end Go.Proofs.YtmnodjbmaifglaaDoor.Hd
