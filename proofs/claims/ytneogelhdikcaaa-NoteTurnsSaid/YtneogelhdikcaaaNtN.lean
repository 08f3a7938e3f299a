/- The document's outbox as it lies; its New, put, Has; no other condition. -/
import Derived.Test.YtneogelhdikcaaaNtM
namespace Go.Proofs.Ytneogelhdikcaaa.Nt
open Go.RowKit Go.Lib Go.Maps
set_option linter.unusedSimpArgs false
set_option linter.unusedVariables false

theorem beq_mk (a b : Tx) : ((mkS a).toList == (mkS b).toList) = decide (a = b) := by
  rw [Lib.toList_data, Lib.toList_data]
  by_cases h : a = b
  · subst h; simp
  · rw [decide_eq_false h]
    show (a == b) = false
    simpa using h
theorem less_mk (a b : Tx) : Op.bytesLess (mkS a).toList (mkS b).toList = decide (a < b) := by
  rw [Proofs.bytesLess_eq, Lib.toList_data, Lib.toList_data]; rfl
set_option maxRecDepth 100000 in
set_option maxHeartbeats 1000000 in
theorem Has_l (v : Value) (l : List Tx) (s : Tx) (w : World) (hR : RdT v l w) (hl : l.length ≤ 1000000) (r : Bool) (HRR : Hid (r = decide (s ∈ l))) : Calls Try.prog 20 #[v, .string (mkS s)] w fun e w' => e = .returned (.bool r) ∧ w' = w := by
  obtain ⟨ao, cap, rfl, h⟩ := hR
  have HR := Lib.hid h
  clear h
  go_enter Try.func20, Try.ntmps20
  go_wp2
  go_loopw [9] (fun iv wr => ∃ j : Nat, j ≤ l.length ∧ iv = .int .i64 j ∧ wr = w ∧ Hid (s ∉ l.take j)) (fun iv _ => l.length - (intOf iv).toNat)
  case atStart => exact ⟨0, by omega, rfl, rfl, by show _ ∉ _; simp⟩
  case round =>
    obtain ⟨j, hj, rfl, rfl, HN⟩ := hrel
    by_cases hlt : j < l.length
    · obtain ⟨g, o, rfl, hg, hat⟩ := HR.out (by omega)
      have p0 := cellT hat hlt
      have hj0 : (0 : Int) ≤ (j : Int) := by omega
      have hjl : (j : Int) < (l.length : Int) := by omega
      by_cases e : l[j] = s
      · have he : s ∈ l := e ▸ List.getElem_mem hlt
        have HE : Hid (true = r) := by show _ = _; rw [HRR.out, decide_eq_true he]
        rw [e] at p0
        clear hat e HN he HRR
        go_wp2
        go_ret
        exact ⟨by rw [← HE.out]; rfl, rfl⟩
      · have HE : Hid (s ∉ l.take (j + 1)) := by
          show _ ∉ _
          rw [List.take_succ_eq_append_getElem hlt, List.mem_append, List.mem_singleton]
          exact fun h => h.elim HN.out (fun h => e h.symm)
        have hne : ((mkS l[j]).toList == (mkS s).toList) = false := by rw [beq_mk]; exact decide_eq_false e
        generalize l[j] = y at *
        clear hat e HN
        go_wp2
        go_roundw
        case rel => exact ⟨j + 1, by omega, by go_num, trivial, HE⟩
        case measure => simp [intOf]; omega
    · have hjl : ¬ (j : Int) < (l.length : Int) := by omega
      have HE : Hid (false = r) := by
        show _ = _
        rw [HRR.out]
        have := HN.out
        rw [List.take_of_length_le (by omega)] at this
        exact (decide_eq_false this).symm
      clear HN HRR
      go_wp2
      go_ret
      exact ⟨by rw [← HE.out]; rfl, rfl⟩
theorem Has_r (v : Value) (l : List Tx) (s : Tx) (w : World) (hR : RdT v l w) (hl : l.length ≤ 1000000) : Calls Try.prog 20 #[v, .string (mkS s)] w fun e w' => e = .returned (.bool (decide (s ∈ l))) ∧ w' = w := Has_l v l s w hR hl _ (Lib.hid rfl)
theorem Rd.take {k : Nat} {l : List Tx} {ao : Option Addr} {cap : Nat} {w : World} (h : RdT (.slice ao l.length cap) l w) (hk : k ≤ l.length) : Rd k (tC (l.take k)) (.slice ao k cap) w := by
  refine ⟨_, _, rfl, fun h0 => ?_⟩
  obtain ⟨g, o, e, h1, h2⟩ := h.at (by omega)
  refine ⟨g, o, e, h1, fun j u hu => h2 j u ?_⟩
  rw [tC_take, List.getElem?_take] at hu
  split at hu
  · exact hu
  · cases hu
theorem Rd.dropT {k : Nat} {l : List Tx} {g o cap c2 : Nat} {w : World} (h : RdT (.slice (some ⟨g, o, none⟩) l.length cap) l w) (hk : k < l.length) : Rd (l.length - k) (tC (l.drop k)) (.slice (some ⟨g, o + k, none⟩) (l.length - k) c2) w := by
  refine ⟨_, _, rfl, fun h0 => ?_⟩
  obtain ⟨g', o', e, h1, h2⟩ := h.at (by omega)
  injection e with e; injection e with e1 e2
  subst e1 e2
  refine ⟨g, o + k, rfl, h1, fun j u hu => ?_⟩
  rw [tC_drop, List.getElem?_drop] at hu
  have := h2 _ _ hu
  rwa [← Nat.add_assoc] at this
/-- the three worlds of an insertion -/
theorem put_w {l : List Tx} {k cap : Nat} {ao : Option Addr} {x3 : Value} {m3 : Nat} (s : Tx) (w : World) (h1 : Rd k (tC (l.take k)) (.slice ao k cap) w) (hk : k ≤ l.length) (h3 : Rd m3 (tC (l.drop k)) x3 w) (hm3 : m3 = l.length - k) (hl : l.length ≤ 10000) :
    ∃ v1 W1 v2 W2 v3 W3, (∀ ty, (Builtin.append_ #[27, 27] ty #[.slice (some ⟨w.heap.size, 0, none⟩) 0 0, .slice ao k cap]).run Try.prog (w.alloc (.cells #[] 9)) = .ok v1 W1) ∧
      (∀ ty, (Builtin.append_ #[27, 27] ty #[v1, .slice (some ⟨W1.heap.size, 0, none⟩) 1 1]).run Try.prog (W1.alloc (.cells #[.string (mkS s)] 9)) = .ok v2 W2) ∧
      (∀ ty, (Builtin.append_ #[27, 27] ty #[v2, x3]).run Try.prog W2 = .ok v3 W3) ∧
      OwT w.heap.size v3 (l.take k ++ [s] ++ l.drop k) W3 ∧ Below w.heap.size w W3 := by
  obtain ⟨i1, hi0, hi1, hi2, hi3⟩ := info_parts infoT
  subst hm3
  have htl : (l.take k).length = k := by rw [List.length_take]; omega
  have hdl : (l.drop k).length = l.length - k := List.length_drop
  obtain ⟨W0, hW0, hk0, hb0⟩ := new0 w 9
  have hO0 : OwG w.heap.size 1 0 (.slice (some ⟨w.heap.size, 0, none⟩) 0 0) [] W0 := by
    rw [hW0]; exact OwG.of_own (World.ownsRow_made w #[] 0 (Nat.le_refl _) (Nat.zero_le _) (by simp))
  obtain ⟨v1, W1, r1, o1, g1, n1⟩ := ap_run (t := 27) Try.underlying27 hi0 hi1 hi2 hi3 rfl hO0 (h1.go hb0) (by rw [tC_len, htl, Nat.mul_one]) (tC_one _) hb0.size (by unfold maxLen; omega) (by show (0 + k) * 16 ≤ 140737488355328; omega)
  have b1 : Below w.heap.size w W1 := hb0.trans ⟨g1.os, g1.tape, g1.output, g1.size, fun j hj => g1.block j (Nat.lt_of_lt_of_le hj hb0.size) (fun e => by have e2 : j = w.heap.size := (by injection e); omega)⟩
  obtain ⟨WA, hWA, hkA, hbA⟩ := new1 W1 (.string (mkS s)) 9
  have hxA : Rd 1 (tC [s]) (.slice (some ⟨W1.heap.size, 0, none⟩) 1 1) WA := by rw [hWA]; exact rdT_one s W1
  obtain ⟨v2, W2, r2, o2, g2, n2⟩ := ap_run (t := 27) Try.underlying27 hi0 hi1 hi2 hi3 rfl (o1.go hbA) hxA (by rfl) (tC_one _) (Nat.le_trans b1.size hbA.size) (by unfold maxLen; omega) (by show (0 + k + 1) * 16 ≤ 140737488355328; omega)
  have b2 : Below w.heap.size w W2 := (b1.trans (hbA.mono b1.size)).trans ⟨g2.os, g2.tape, g2.output, g2.size, fun j hj => g2.block j (Nat.lt_of_lt_of_le hj (Nat.le_trans b1.size hbA.size)) (fun e => by have := (o1.lt j e.symm).1; omega)⟩
  obtain ⟨v3, W3, r3, o3, g3, n3⟩ := ap_run (t := 27) Try.underlying27 hi0 hi1 hi2 hi3 rfl o2 (h3.go b2) (by rw [tC_len, hdl, Nat.mul_one]) (tC_one _) b2.size (by unfold maxLen; omega) (by show (0 + k + 1 + (l.length - k)) * 16 ≤ 140737488355328; omega)
  have b3 : Below w.heap.size w W3 := b2.trans ⟨g3.os, g3.tape, g3.output, g3.size, fun j hj => g3.block j (Nat.lt_of_lt_of_le hj b2.size) (fun e => by have := (o2.lt j e.symm).1; omega)⟩
  subst hW0 hWA
  refine ⟨v1, W1, v2, W2, v3, W3, r1, r2, r3, ?_, b3⟩
  have e : (l.take k ++ [s] ++ l.drop k).length = 0 + k + 1 + (l.length - k) := by rw [List.length_append, List.length_append, htl, hdl]; simp
  show OwG _ _ _ _ _ _
  rw [e, tC_app, tC_app]
  exact o3
def PtQ (B : Nat) (v : Value) (l' : List Tx) (w : World) (e : Ending) (w' : World) : Prop := ∃ v', e = .returned v' ∧ OwT B v' l' w' ∧ Below w.heap.size w w' ∧ (v' = v ∨ ∀ g, v'.ownBlock = some g → w.heap.size ≤ g)
set_option maxRecDepth 100000 in
set_option maxHeartbeats 4000000 in
theorem put_l (B : Nat) (v : Value) (l : List Tx) (s : Tx) (w : World) (hv : OwT B v l w) (hB : B ≤ w.heap.size) (hl : l.length ≤ 10000) (l' : List Tx) (HL : Hid (l' = ins l s)) :
    Calls Try.prog 27 #[v, .string (mkS s)] w (PtQ B v l' w) := by
  obtain ⟨ao, cap, rfl, hlc, hnone⟩ := hv.form
  have HR := Lib.hid hv.rd
  have HV := Lib.hid hv
  have HQ : Hid (∀ v3 W3, OwT w.heap.size v3 l' W3 → Below w.heap.size w W3 → PtQ B (.slice ao l.length cap) l' w (.returned v3) W3) := fun v3 W3 h1 h2 => ⟨v3, rfl, h1.mono hB, h2, .inr (fun g hg => (h1.lt g hg).1)⟩
  have HQ1 : Hid (l' = l → PtQ B (.slice ao l.length cap) l' w (.returned (.slice ao l.length cap)) w) := fun e => ⟨_, rfl, by rw [e]; exact hv, Below.refl _ _, .inl rfl⟩
  clear hv
  go_enter Try.func27, Try.ntmps27
  go_wp2
  go_loopw [5] (fun iv wr => ∃ j : Nat, j ≤ l.length ∧ iv = .int .i64 j ∧ wr = w ∧ Hid (∀ i (hi : i < l.length), i < j → l[i] < s)) (fun iv _ => l.length - (intOf iv).toNat)
  case atStart => exact ⟨0, by omega, rfl, rfl, Lib.hid (fun i _ h => absurd h (Nat.not_lt_zero i))⟩
  case round =>
    obtain ⟨j, hj, rfl, rfl, HN⟩ := hrel
    by_cases hlt : j < l.length
    · obtain ⟨g, o, hao, hg, hat⟩ := HR.out.at (by omega)
      subst hao
      have p0 := cellT hat hlt
      have hj0 : (0 : Int) ≤ (j : Int) := by omega
      have hjl : (j : Int) < (l.length : Int) := by omega
      by_cases e : l[j] < s
      · have HE : Hid (∀ i (hi : i < l.length), i < j + 1 → l[i] < s) := Lib.hid (fun i hi h => by
          rcases Nat.lt_or_ge i j with q | q
          · exact HN.out i hi q
          · have : i = j := by omega
            subst this; exact e)
        have hls : Op.bytesLess (mkS l[j]).toList (mkS s).toList = true := by rw [less_mk]; exact decide_eq_true e
        generalize l[j] = y at *
        clear hat e HN
        go_wp2
        go_roundw
        case rel => exact ⟨j + 1, by omega, by go_num, trivial, HE⟩
        case measure => simp [intOf]; omega
      · have hls : Op.bytesLess (mkS l[j]).toList (mkS s).toList = false := by rw [less_mk]; exact decide_eq_false e
        by_cases e2 : l[j] = s
        · have hi : l' = l := by rw [HL.out, ins_at hj HN.out (fun _ => e), dif_pos hlt, if_pos e2]
          have HF := Lib.hid (HQ1.out hi)
          have heq : ((mkS l[j]).toList == (mkS s).toList) = true := by rw [beq_mk]; exact decide_eq_true e2
          clear hi e e2 HL HQ HQ1 HV
          generalize l[j] = y at *
          clear hat HN
          go_wp2
          go_ret
          exact HF.out
        · have hi : l' = l.take j ++ [s] ++ l.drop j := by rw [HL.out, ins_at hj HN.out (fun _ => e), dif_pos hlt, if_neg e2]; simp
          have hcz : ¬ (j : Int) = (cap : Int) := by omega
          have hcz2 : ¬ cap = j := by omega
          have hjc : (j : Int) ≤ (cap : Int) := by omega
          obtain ⟨v1, W1, v2, W2, v3, W3, r1, r2, r3, o3, b3⟩ := put_w s wr (Rd.take HR.out hj) hj (Rd.dropT (c2 := cap - j) HR.out hlt) rfl hl
          rw [← hi] at o3
          have HF := Lib.hid (HQ.out v3 W3 o3 b3)
          have R1 := Lib.hid r1
          have R2 := Lib.hid r2
          have R3 := Lib.hid r3
          have heq : ((mkS l[j]).toList == (mkS s).toList) = false := by rw [beq_mk]; exact decide_eq_false e2
          clear hi e e2 HL HQ HQ1 HV r1 r2 r3 o3 b3
          generalize l[j] = y at *
          clear hat HN
          go_wp2_with (first | (at_builtin; refine wpList_append_eq rfl _ _ 27 rfl rfl rfl R1.out ?_) | (at_builtin; refine wpList_append_eq rfl _ _ 27 rfl rfl rfl R2.out ?_) | (at_builtin; refine wpList_append_eq rfl _ _ 27 rfl rfl rfl R3.out ?_))
          go_ret
          exact HF.out
    · have hjl : ¬ (j : Int) < (l.length : Int) := by omega
      have hjj : j = l.length := by omega
      have hi : l' = l.take j ++ [s] ++ l.drop j := by rw [HL.out, ins_at hj HN.out (fun h => absurd h hlt), dif_neg hlt, hjj, List.take_length, List.drop_length]; simp
      subst hjj
      have hj0 : (0 : Int) ≤ (l.length : Int) := by omega
      have hjc : (l.length : Int) ≤ (cap : Int) := by omega
      have hd0 : ∀ ao2 c2, Rd 0 (tC (l.drop l.length)) (.slice ao2 0 c2) wr := fun ao2 c2 => ⟨_, _, rfl, fun h => absurd h (Nat.lt_irrefl _)⟩
      cases ao with
      | none =>
        obtain ⟨h0, h00⟩ := hnone rfl
        have hl0 : l = [] := List.eq_nil_of_length_eq_zero h0
        subst hl0
        subst h00
        obtain ⟨v1, W1, v2, W2, v3, W3, r1, r2, r3, o3, b3⟩ := put_w s wr (Rd.take HR.out hj) hj (hd0 none 0) rfl hl
        rw [← hi] at o3
        have HF := Lib.hid (HQ.out v3 W3 o3 b3)
        have R1 := Lib.hid r1
        have R2 := Lib.hid r2
        have R3 := Lib.hid r3
        clear hi HL HQ HQ1 HV r1 r2 r3 o3 b3 HN
        go_wp2_with (first | (at_builtin; refine wpList_append_eq rfl _ _ 27 rfl rfl rfl R1.out ?_) | (at_builtin; refine wpList_append_eq rfl _ _ 27 rfl rfl rfl R2.out ?_) | (at_builtin; refine wpList_append_eq rfl _ _ 27 rfl rfl rfl R3.out ?_))
        go_ret
        exact HF.out
      | some a =>
        obtain ⟨g, o, rfl⟩ : ∃ g o, a = ⟨g, o, none⟩ := by
          rcases HV.out.2 with ⟨e, _⟩ | ⟨g, o, c9, e, _⟩
          · cases e
          · injection e with e; injection e with e; exact ⟨g, o, e⟩
        by_cases hcz : l.length = cap
        · subst hcz
          obtain ⟨v1, W1, v2, W2, v3, W3, r1, r2, r3, o3, b3⟩ := put_w s wr (Rd.take HR.out hj) hj (hd0 (some ⟨g, o, none⟩) 0) (by omega) hl
          rw [← hi] at o3
          have HF := Lib.hid (HQ.out v3 W3 o3 b3)
          have R1 := Lib.hid r1
          have R2 := Lib.hid r2
          have R3 := Lib.hid r3
          clear hi HL HQ HQ1 HV r1 r2 r3 o3 b3 HN hd0
          go_wp2_with (first | (at_builtin; refine wpList_append_eq rfl _ _ 27 rfl rfl rfl R1.out ?_) | (at_builtin; refine wpList_append_eq rfl _ _ 27 rfl rfl rfl R2.out ?_) | (at_builtin; refine wpList_append_eq rfl _ _ 27 rfl rfl rfl R3.out ?_))
          go_ret
          exact HF.out
        · have hcz1 : ¬ (l.length : Int) = (cap : Int) := by omega
          have hcz2 : ¬ cap = l.length := fun e => hcz e.symm
          obtain ⟨v1, W1, v2, W2, v3, W3, r1, r2, r3, o3, b3⟩ := put_w s wr (Rd.take HR.out hj) hj (hd0 (some ⟨g, o + l.length, none⟩) (cap - l.length)) (by omega) hl
          rw [← hi] at o3
          have HF := Lib.hid (HQ.out v3 W3 o3 b3)
          have R1 := Lib.hid r1
          have R2 := Lib.hid r2
          have R3 := Lib.hid r3
          clear hi HL HQ HQ1 HV r1 r2 r3 o3 b3 HN hd0
          go_wp2_with (first | (at_builtin; refine wpList_append_eq rfl _ _ 27 rfl rfl rfl R1.out ?_) | (at_builtin; refine wpList_append_eq rfl _ _ 27 rfl rfl rfl R2.out ?_) | (at_builtin; refine wpList_append_eq rfl _ _ 27 rfl rfl rfl R3.out ?_))
          go_ret
          exact HF.out
theorem put_r (B : Nat) (v : Value) (l : List Tx) (s : Tx) (w : World) (hv : OwT B v l w) (hB : B ≤ w.heap.size) (hl : l.length ≤ 10000) :
    Calls Try.prog 27 #[v, .string (mkS s)] w (PtQ B v (ins l s) w) := put_l B v l s w hv hB hl _ (Lib.hid rfl)
end Go.Proofs.Ytneogelhdikcaaa.Nt
