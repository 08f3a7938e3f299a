/- The contracts of the document's Text and Hash: for few pairs of short names and values. -/
import Derived.Test.YtbimncnicioagaaDoorLbN
namespace Go.Proofs.YtbimncnicioagaaDoor.Lb
open Go.RowKit Ch Jt
set_option linter.unusedSimpArgs false
set_option linter.unusedVariables false

set_option maxRecDepth 100000 in
set_option maxHeartbeats 4000000 in
theorem TextR_c (ao : Option Addr) (cap : Nat) (gs : List FB) (w : World) (hR : RdF (.slice ao gs.length cap) gs w) (hm : gs.length ≤ 100) (hs : ∀ x ∈ gs, shortF x) :
    Calls Tryd.prog 16 #[.slice ao gs.length cap] w fun e w' => e = .returned (.string (Jt.mkS (txtL gs))) ∧ Below w.heap.size w w' := by
  have HR := Lib.hid hR
  have HS := Lib.hid hs
  clear hR hs
  go_enter Tryd.func16, Tryd.ntmps16
  go_wp2
  go_loopw [3, 8] (fun sv v wr => ∃ (k : Nat) (s : ByteArray), k ≤ gs.length ∧ v = .int .i64 k ∧ sv = .string s ∧ Hid (s = Jt.mkS (123 :: prsL (gs.take k))) ∧ Hid (Below w.heap.size w wr)) (fun _ v _ => gs.length - (intOf v).toNat)
  case atStart => exact ⟨0, _, by omega, rfl, rfl, Lib.hid rfl, Lib.hid (Below.refl _ _)⟩
  case round =>
    obtain ⟨k, s, hk, rfl, rfl, HSS, HB⟩ := hrel
    have hln := take_short HS.out k
    have hsz : s.size ≤ 220200 := by
      rw [HSS.out, Jt.size_mkS]
      simp only [List.length_cons]; omega
    by_cases hlt : k < gs.length
    · obtain ⟨g1, o1, rfl, hg1, hat1⟩ := rdf_at2 (HR.out.go HB.out) (by omega)
      obtain ⟨p0, p1⟩ := hat1 k hlt
      have hsk := HS.out _ (List.getElem_mem hlt)
      have HST := Lib.hid (prs_step hlt)
      have hk0 : (0 : Int) ≤ (k : Int) := by omega
      have hkl : (k : Int) < (gs.length : Int) := by omega
      obtain ⟨⟨x, y⟩, hxy⟩ : ∃ f : FB, gs[k] = f := ⟨_, rfl⟩
      rw [hxy] at p0 p1 hsk HST
      simp only at p0 p1
      have hx : x.size ≤ 300 := hsk.1
      have hy : y.size ≤ 300 := hsk.2
      have HQ : Hid (∀ W : World, Calls Tryd.prog 28 #[.string y] W fun e w' => e = .returned (.string (Jt.mkS (quoL y.data.toList))) ∧ w' = W) := fun W => (quoteR_c y W hy).mono fun _ _ h => ⟨h.1, h.2.symm⟩
      have hql := quL_len y.data.toList
      have hys := Lib.size_eq y
      have HOD := Lib.hid (one_data x y)
      have hqz : (Jt.mkS (quoL y.data.toList)).size ≤ 1802 := by rw [Jt.size_mkS]; unfold quoL; simp only [List.length_cons, List.length_append, List.length_nil]; omega
      clear hat1 hsk hxy hql hys
      revert HQ HOD hqz
      generalize Jt.mkS (quoL y.data.toList) = qv
      intro HQ HOD hqz
      have hgn : g1 ≠ wr.heap.size := by omega
      obtain ⟨WP, hWP, hkP, hbP⟩ : ∃ WP, WP = wr.alloc (.cells #[.string x, .string y] 56) ∧ WP.heap[wr.heap.size]? = some (.cells #[.string x, .string y] 56 (0, 0)) ∧ Below wr.heap.size wr WP := ⟨_, rfl, heap_alloc_new wr _, (Below.refl _ _).alloc (Nat.le_refl _) _⟩
      have HWP := Lib.hid hWP
      have HPV0 := Lib.hid hkP
      have HBP : Hid (Below w.heap.size w WP) := HB.out.trans (hbP.mono HB.out.size)
      clear hWP hkP hbP
      by_cases h0 : k = 0
      · have hk1 : ¬ (0 : Int) < (k : Int) := by omega
        have HSN : Hid (s ++ x ++ ⟨#[61]⟩ ++ qv = Jt.mkS (123 :: prsL (gs.take (k + 1)))) := by
          show _ = _
          rw [HST.out, if_pos h0]
          refine Jt.mkS_of ?_
          have h := HOD.out
          simp only [ByteArray.data_append, Array.toList_append] at h ⊢
          rw [List.append_assoc, List.append_assoc, ← List.append_assoc x.data.toList, h, HSS.out, Jt.data_mkS]
          simp
        clear HST h0
        go_wp2_with fail
        rw [← HWP.out]
        clear HWP p0 p1
        obtain ⟨e0, e1⟩ := cell2 HPV0.out
        go_quiet ((go_at_call 28; exact Calls.quiet_of_same (HQ.out _)))
        have HBD : Hid (Below w.heap.size w (WP.drewN nq)) := HBP.out.trans ((bdrN WP nq).mono HBP.out.size)
        go_wp2
        go_roundw
        case rel => exact ⟨k + 1, _, by omega, by go_num, rfl, HSN, HBD⟩
        case measure => simp [intOf]; omega
      · have hk1 : (0 : Int) < (k : Int) := by omega
        have HSN : Hid (s ++ ⟨#[44]⟩ ++ x ++ ⟨#[61]⟩ ++ qv = Jt.mkS (123 :: prsL (gs.take (k + 1)))) := by
          show _ = _
          rw [HST.out, if_neg h0]
          refine Jt.mkS_of ?_
          have h := HOD.out
          simp only [ByteArray.data_append, Array.toList_append] at h ⊢
          rw [List.append_assoc, List.append_assoc, ← List.append_assoc x.data.toList, h, HSS.out, Jt.data_mkS]
          simp
        have hs4 : (s ++ (⟨#[44]⟩ : ByteArray)).size ≤ 220201 := by rw [ByteArray.size_append]; show _ + 1 ≤ _; omega
        clear HST
        go_wp2_with fail
        rw [← HWP.out]
        clear HWP p0 p1
        obtain ⟨e0, e1⟩ := cell2 HPV0.out
        go_quiet ((go_at_call 28; exact Calls.quiet_of_same (HQ.out _)))
        have HBD : Hid (Below w.heap.size w (WP.drewN nq)) := HBP.out.trans ((bdrN WP nq).mono HBP.out.size)
        go_wp2
        go_roundw
        case rel => exact ⟨k + 1, _, by omega, by go_num, rfl, HSN, HBD⟩
        case measure => simp [intOf]; omega
    · have HTX : Hid (s ++ ⟨#[125]⟩ = Jt.mkS (txtL gs)) := by
        show _ = _
        refine Jt.mkS_of ?_
        rw [HSS.out, List.take_of_length_le (by omega)]
        simp only [ByteArray.data_append, Array.toList_append, Jt.data_mkS]
        unfold txtL
        rfl
      go_wp2
      go_ret
      exact ⟨congrArg (fun x => Ending.returned (.string x)) HTX.out, HB.out⟩
end Go.Proofs.YtbimncnicioagaaDoor.Lb
