/- The contract of the document's Empty, of the law's Same at replies without fields; texts of at most a thousand bytes are within Parse's bounds. -/
import Derived.Test.YtolfenachbbjdaaDoorRpN
namespace Go.Proofs.YtolfenachbbjdaaDoor.Rp
open Go.RowKit Ch Hd
set_option linter.unusedSimpArgs false
set_option linter.unusedVariables false

def emI (l : List UInt8) : Int := if Lib.index l endE = -1 then -1 else Lib.index l endE + 4
def NoE4 (l : List UInt8) (k : Nat) : Prop := ∀ j, j < k → Lib.occAt l endE j = false
theorem occ_take (l : List UInt8) (k : Nat) : Lib.occAt l endE k = true ↔ (l.drop k).take 4 = endE := by
  unfold Lib.occAt
  rw [List.isPrefixOf_iff_prefix, List.prefix_iff_eq_take]
  exact ⟨fun h => h.symm, fun h => h.symm⟩
theorem occ_room {l : List UInt8} {k : Nat} (h : Lib.occAt l endE k = true) : k + 4 ≤ l.length := by
  have h2 := congrArg List.length ((occ_take l k).1 h)
  rw [List.length_take, List.length_drop] at h2
  have : endE.length = 4 := rfl
  omega
theorem ext4 (s : ByteArray) (k : Nat) : (s.extract k (k + 4)).toList = (s.data.toList.drop k).take 4 := by
  rw [Lib.toList_data, Lib.extract_data, Nat.add_sub_cancel_left]
set_option maxRecDepth 100000 in
set_option maxHeartbeats 2000000 in
theorem Empty_c (s : ByteArray) (w : World) (hs : s.size ≤ 5000000) : Calls Tryd.prog 17 #[.string s] w fun e w' => e = .returned (.int .i64 (emI s.data.toList)) ∧ w = w' := by
  have HNO : Hid (∀ k, NoE4 s.data.toList k → s.size < k + 4 → emI s.data.toList = -1) := fun k hk hz => by
    have hi : Lib.index s.data.toList endE = -1 := Lib.index_none fun j hj => by
      by_cases hjk : j < k
      · exact hk j hjk
      · cases ho : Lib.occAt s.data.toList endE j with
        | false => rfl
        | true => have := occ_room ho; rw [← Lib.size_eq] at this; omega
    unfold emI; rw [if_pos hi]
  have HYE : Hid (∀ k, NoE4 s.data.toList k → Lib.occAt s.data.toList endE k = true → emI s.data.toList = (k : Int) + 4) := fun k hk ho => by
    have hl := occ_room ho
    have hi : Lib.index s.data.toList endE = (k : Int) := Lib.index_first (by omega) ho hk
    unfold emI; rw [hi, if_neg (by omega)]
  have HSE : Hid (∀ k, (s.extract k (k + 4)).toList = (s.data.toList.drop k).take 4) := fun k => ext4 s k
  generalize emI s.data.toList = r at HNO HYE ⊢
  go_enter Tryd.func17, Tryd.ntmps17
  go_wp2
  go_loop [3] (fun i => ∃ k : Nat, k ≤ s.size ∧ i = .int .i64 k ∧ Hid (NoE4 s.data.toList k)) (fun i => s.size - (intOf i).toNat)
  case atStart => exact ⟨0, by omega, rfl, Lib.hid (fun j hj => absurd hj (Nat.not_lt_zero _))⟩
  case round =>
    obtain ⟨k, hk, rfl, HN⟩ := hrel
    by_cases hlt : k + 4 ≤ s.size
    · have hlt' : (k : Int) + 4 ≤ (s.size : Int) := by omega
      have hk0 : (0 : Int) ≤ (k : Int) := by omega
      cases ho : Lib.occAt s.data.toList endE k with
      | true =>
        have HR := Lib.hid (HYE.out k HN.out ho)
        have hb : ((s.extract k (k + 4)).toList == [13, 10, 13, 10]) = true := by rw [HSE.out, (occ_take _ k).1 ho]; rfl
        clear ho HYE HNO HSE
        go_wp2
        go_ret
        exact ⟨by rw [HR.out]; rfl, rfl⟩
      | false =>
        have HN1 : Hid (NoE4 s.data.toList (k + 1)) := fun j hj => by
          rcases Nat.lt_succ_iff_lt_or_eq.1 hj with h | h
          · exact HN.out j h
          · rw [h]; exact ho
        have hb : ((s.extract k (k + 4)).toList == [13, 10, 13, 10]) = false := by
          rw [HSE.out]
          exact beq_eq_false_iff_ne.2 (fun e => by rw [(occ_take _ k).2 e] at ho; cases ho)
        clear ho HYE HNO HSE HN
        go_wp2
        go_round
        case rel => exact ⟨k + 1, by omega, by go_num, HN1⟩
        case measure => simp [intOf]; omega
    · have hlt' : ¬ (k : Int) + 4 ≤ (s.size : Int) := by omega
      have HR := Lib.hid (HNO.out k HN.out (by omega))
      clear HYE HNO HSE HN
      go_wp2
      go_ret
      exact ⟨by rw [HR.out]; rfl, rfl⟩
theorem em_cut (l : List UInt8) : ((Lib.cut l endE).2.2 = false → emI l = -1) ∧ ((Lib.cut l endE).2.2 = true → 0 ≤ emI l) := by
  have hg := Lib.index_ge l endE
  unfold emI Lib.cut
  by_cases h : Lib.index l endE = -1
  · rw [if_pos h]
    refine ⟨fun _ => rfl, fun hh => ?_⟩
    rw [h] at hh; simp at hh
  · rw [if_neg h]
    have h0 : 0 ≤ Lib.index l endE := by omega
    refine ⟨fun hh => ?_, fun _ => by omega⟩
    simp [h0] at hh
set_option maxRecDepth 100000 in
set_option maxHeartbeats 2000000 in
theorem SameZ_c (ao : Option Addr) (cap : Nat) (w : World) : Calls Tryd.prog 15 #[.agg #[.int .i64 0, .slice ao 0 cap, .string ⟨#[]⟩], .agg #[.int .i64 0, .slice none 0 0, .string ⟨#[]⟩]] w fun e w' => e = .returned (.bool true) ∧ Below w.heap.size w w' := by
  have HB0 : Hid (Below w.heap.size w ((w.alloc (.cells #[.int .i64 0, .slice ao 0 cap, .string ⟨#[]⟩] 24)).alloc (.cells #[.int .i64 0, .slice none 0 0, .string ⟨#[]⟩] 24))) := ((Below.refl _ _).alloc (Nat.le_refl _) _).alloc (by simp) _
  go_enter Tryd.func15, Tryd.ntmps15
  go_wp2
  generalize (w.alloc (.cells #[.int .i64 0, .slice ao 0 cap, .string ⟨#[]⟩] 24)).alloc (.cells #[.int .i64 0, .slice none 0 0, .string ⟨#[]⟩] 24) = W0 at HB0 ⊢
  go_loopw [31] (fun i wr => i = .int .i64 0 ∧ wr = W0) (fun i _ => 0)
  case atStart => exact ⟨rfl, rfl⟩
  case round =>
    obtain ⟨rfl, rfl⟩ := hrel
    go_wp2
    go_ret
    exact ⟨rfl, HB0.out⟩
theorem flat_bm (M : Nat) : ∀ (fs : List FB), (∀ f ∈ fs, f.1.size ≤ M ∧ f.2.size ≤ M) → (fs.flatMap fldB).length ≤ fs.length * (2 * M + 4)
  | [], _ => by simp
  | x :: r, h => by
    have ih := flat_bm M r (fun f hf => h f (List.mem_cons_of_mem _ hf))
    have hx := h x (List.mem_cons_self ..)
    have hl := fld_len x
    rw [List.flatMap_cons, List.length_append, List.length_cons, Nat.add_mul, Nat.one_mul]
    omega
theorem paOk_small {s : ByteArray} (h : s.size ≤ 1000) : PaOk s := by
  obtain ⟨ht, hb⟩ := cut_sz s
  have hl := spl_len (topB s)
  have hz := spl_sz (topB s)
  have hlm : (lastL (spl (topB s))).size ≤ 1000 := by
    unfold lastL
    rw [List.getD_eq_getElem?_getD, List.getElem?_eq_getElem (by omega : (spl (topB s)).length - 1 < (spl (topB s)).length)]
    have := hz _ (List.getElem_mem (by omega : (spl (topB s)).length - 1 < (spl (topB s)).length))
    show ((spl (topB s))[(spl (topB s)).length - 1]).size ≤ 1000
    omega
  refine ⟨by omega, fun _ => ⟨by omega, fun z hzz _ => ?_, fun p r e => ?_, fun m x ho => ?_⟩⟩
  · have h1 := (of_len hzz).2
    have h2 := Lib.size_eq (lastL (spl (topB s)))
    omega
  · have h1 := (cutP_len 32 (Lib.trimPrefix p.data.toList verL)).1
    have h2 := tp_len p.data.toList verL
    have h3 := hz p (by rw [e]; exact List.mem_cons_self ..)
    have h4 := Lib.size_eq p
    omega
  · obtain ⟨_, _, _, ls, hls, hlp, hll⟩ := ol_bd ho
    obtain ⟨h1, h2⟩ := flds_bd 1000 ls [] x.2.1 hls (fun l hl => by have := hz l (hlp l hl); omega) (fun f hf => by cases hf)
    have h3 := flat_bm 1000 x.2.1 h1
    simp only [List.length_nil] at h2
    omega
end Go.Proofs.YtolfenachbbjdaaDoor.Rp
