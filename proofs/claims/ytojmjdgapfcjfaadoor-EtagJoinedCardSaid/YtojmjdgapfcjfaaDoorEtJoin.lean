/- Marks with commas between: what is read of them; the contract of the document's Right at every text. -/
import Derived.Test.YtojmjdgapfcjfaaDoorEtArgs
namespace Go.Proofs.YtojmjdgapfcjfaaDoor.Et
open Go.RowKit Ch
set_option linter.unusedSimpArgs false
set_option linter.unusedVariables false

set_option maxRecDepth 100000 in
set_option maxHeartbeats 2000000 in
theorem right_m (s : ByteArray) (w : World) (hs : s.size ≤ maxLen) : Calls Tryd.prog 10 #[.string s] w fun e w' => e = .returned (.bool (mkA s.data.toList)) ∧ w = w' := by
  unfold maxLen at hs
  have hsl := Lib.hid (Lib.size_eq s)
  go_enter Tryd.func10, Tryd.ntmps10
  go_wp2
  go_loop [3] (fun i => ∃ k : Nat, k ≤ s.size ∧ i = .int .i64 k ∧ mkA (s.data.toList.take k) = true) (fun i => s.size - (intOf i).toNat)
  case atStart => exact ⟨0, by omega, rfl, rfl⟩
  case round =>
    obtain ⟨k, hk, rfl, hal⟩ := hrel
    have HA := Lib.hid hal
    clear hal
    by_cases hlt : k < s.size
    · have h0 : 0 ≤ ((s[k].toNat : Nat) : Int) := by omega
      have h1 : ((s[k].toNat : Nat) : Int) ≤ 255 := by have := s[k].toNat_lt; omega
      have HM := Lib.hid (fun W => byte_r ((s[k].toNat : Nat) : Int) W h0 h1)
      rw [mkI_mkB] at HM
      cases hb : mkB s[k] with
      | true =>
        have HB := Lib.hid (mkA_step hlt HA.out hb)
        rw [hb] at HM
        clear hb
        go_wp2_with (go_at_call 24; refine (HM.out _).mono ?_; rintro e w' ⟨rfl, rfl⟩)
        go_round
        case rel => exact ⟨k + 1, by omega, by go_num, HB.out⟩
        case measure => simp [intOf]; omega
      | false =>
        have HB := Lib.hid (all_no hlt hb)
        rw [hb] at HM
        clear hb
        go_wp2_with (go_at_call 24; refine (HM.out _).mono ?_; rintro e w' ⟨rfl, rfl⟩)
        go_ret
        exact ⟨ret_b (by unfold mkA; rw [HB.out]), rfl⟩
    · go_wp2
      go_ret
      exact ⟨ret_b (by have h := HA.out; rw [List.take_of_length_le (by rw [← hsl.out]; omega)] at h; rw [h]), rfl⟩
def joinT (L : List TagL) : List UInt8 := L.flatMap fun t => txt t ++ [44, 32]
theorem join_snoc (L : List TagL) (t : TagL) : joinT (L ++ [t]) = joinT L ++ txt t ++ [44, 32] := by
  unfold joinT; rw [List.flatMap_append, List.flatMap_singleton, List.append_assoc]
theorem join_refV : ∀ (L acc : List TagL), (∀ t ∈ L, mkA t.2 = true) → refV false [] acc (joinT L) = some (acc ++ L)
  | [], acc, _ => by
    show refV false [] acc [] = _
    rw [refV]; unfold stepL; rw [trim_bl bl_nil]; simp
  | t :: L, acc, h => by
    have ht : t.2.all mkB = true := h t (by simp)
    have e : joinT (t :: L) = txt t ++ (44 :: (([32] : List UInt8) ++ joinT L)) := by unfold joinT; simp
    have hb : Bl [32] := fun a ha => by simp at ha; subst ha; decide
    rw [e, refV_txt acc t _ ht, refV]
    simp only [show ¬ (44 : UInt8) = 34 by decide, if_false, and_self, if_true]
    have hs := step_txt acc t bl_nil ht
    rw [List.append_nil] at hs
    rw [hs]
    show refV false [] (acc ++ [t]) (([32] : List UInt8) ++ joinT L) = _
    rw [refV_bl false (acc ++ [t]) [32] [] _ hb]
    have hh := refV_head [32] hb (joinT L) false [] (acc ++ [t])
    rw [List.append_nil] at hh
    rw [List.nil_append, hh, join_refV L (acc ++ [t]) (fun x hx => h x (by simp [hx]))]
    simp
theorem join_star (L : List TagL) : ¬ trimL (joinT L) = [42] := by
  cases L with
  | nil => show ¬ trimL [] = [42]; rw [trim_bl bl_nil]; simp
  | cons t L =>
    obtain ⟨c, r, e, hc⟩ := txt_hd t
    have hne : c ≠ 42 := by
      obtain ⟨w, x⟩ := t
      cases w with
      | true => have : (txt (true, x)).head? = some 87 := rfl; rw [e] at this; simp at this; rw [this]; decide
      | false => have : (txt (false, x)).head? = some 34 := rfl; rw [e] at this; simp at this; rw [this]; decide
    have e2 : joinT (t :: L) = c :: (r ++ [44, 32] ++ joinT L) := by unfold joinT; rw [List.flatMap_cons, e]; simp
    obtain ⟨r', hr⟩ := trimR_keep (p := []) hc [] (r ++ [44, 32] ++ joinT L) ⟨_, rfl⟩
    rw [List.nil_append, List.nil_append] at hr
    rw [e2, trim_from hc, hr]
    intro h
    simp at h
    exact hne h.1
theorem join_prs (L : List TagL) (h : ∀ t ∈ L, mkA t.2 = true) : prsL (joinT L) = prA (some L) := by
  rw [prs_stA _ (join_star L)]
  have e : stA [] (ptL (joinT L)) = some L := by
    have := join_refV L [] h
    rw [refV_stA] at this
    exact this
  rw [e]; rfl
def keepB (t : TagL) : Bool := mkA t.2 && decide (t.2.length < 30)
def selJ (L : List TagL) (j : Nat) : List TagL := (L.take (min j 6)).filter keepB
theorem sel_out {L : List TagL} {j : Nat} (h : 6 ≤ j) : selJ L (j + 1) = selJ L j := by unfold selJ; rw [show min (j + 1) 6 = min j 6 by omega]
theorem sel_no {L : List TagL} {j : Nat} (h : j < 6) (hj : j < L.length) (hk : keepB L[j] = false) : selJ L (j + 1) = selJ L j := by
  unfold selJ
  rw [show min (j + 1) 6 = j + 1 by omega, show min j 6 = j by omega, List.take_succ_eq_append_getElem hj, List.filter_append]
  simp [hk]
theorem sel_yes {L : List TagL} {j : Nat} (h : j < 6) (hj : j < L.length) (hk : keepB L[j] = true) : selJ L (j + 1) = selJ L j ++ [L[j]] := by
  unfold selJ
  rw [show min (j + 1) 6 = j + 1 by omega, show min j 6 = j by omega, List.take_succ_eq_append_getElem hj, List.filter_append]
  simp [hk]
theorem sel_len (L : List TagL) (j : Nat) : (selJ L j).length ≤ 6 := by
  unfold selJ
  have := List.length_filter_le keepB (L.take (min j 6))
  rw [List.length_take] at this
  omega
theorem sel_ok (L : List TagL) (j : Nat) : ∀ t ∈ selJ L j, mkA t.2 = true ∧ t.2.length < 30 := fun t ht => by
  have := (List.mem_filter.1 ht).2
  unfold keepB at this
  simpa using this
theorem join_len : ∀ (L : List TagL), (∀ t ∈ L, t.2.length < 30) → (joinT L).length ≤ L.length * 40
  | [], _ => by simp [joinT]
  | t :: L, h => by
    have ih := join_len L (fun x hx => h x (by simp [hx]))
    have e : joinT (t :: L) = txt t ++ [44, 32] ++ joinT L := by unfold joinT; simp
    have ht := h t (by simp)
    have hx : (txt t).length ≤ t.2.length + 4 := by unfold txt; split <;> simp
    rw [e, List.length_append, List.length_append, List.length_cons]
    simp only [List.length_cons, List.length_nil]
    omega
end Go.Proofs.YtojmjdgapfcjfaaDoor.Et
