/- The contract of package note's Since: at every outbox of the call's own; no other condition. -/
import Derived.Test.YtneogelhdikcaaaNtJ
namespace Go.Proofs.Ytneogelhdikcaaa.Nt
open Go.RowKit Go.Lib Go.Maps Go.Shelf
set_option linter.unusedSimpArgs false
set_option linter.unusedVariables false

/-- the library's Clone at entries -/
theorem clone_nil (n cp : Nat) (w : World) : Calls Try.prog 29 #[.slice none n cp] w fun e w' => ∃ v, e = .returned v ∧ RdE v [] w' ∧ Below w.heap.size w w' := by
  have hcon := AnyE.slices_Clone_nil Try.cloneP n cp w
  change Calls Try.prog 29 _ _ _ at hcon
  refine hcon.mono ?_
  rintro e w' ⟨rfl, rfl⟩
  exact ⟨_, rfl, Rd.nil _ _ _ _, Below.refl _ _⟩
theorem clone_some (g o cp n : Nat) (l : List Ent) (w : World) (hn : l.length = n) (hr : w.rangeAt g o (eC l)) (hm : l.length ≤ 1000000) : Calls Try.prog 29 #[.slice (some ⟨g, o, none⟩) n cp] w fun e w' => ∃ v, e = .returned v ∧ RdE v l w' ∧ Below w.heap.size w w' := by
  subst hn
  obtain ⟨i0, hi, hz0, hz1, hz2⟩ := info_parts infoE
  have hcon := AnyE.slices_Clone Try.cloneP i0 _ 4 40 hi hz0 hz1 hz2 rfl (by decide) Try.sizeOf47 g o l.length cp (eC l) w (eC_len l) (by unfold maxLen; omega) (by omega) hr (eC_one l)
  change Calls Try.prog 29 _ _ _ at hcon
  refine hcon.mono ?_
  rintro e w' ⟨v, rfl, hO, _, hb⟩
  exact ⟨v, rfl, own_rd hO, hb⟩
set_option maxRecDepth 100000 in
theorem Since_gone {B c : Nat} {gb mb : Option Nat} {m : Int} {now : List Tx} {E : List Ent} {fl la : Int} {w : World} (h : IsOb B c gb mb m now E fl la w) (seq : Int) (hr : seq < fl) : Calls Try.prog 17 #[.pointer (some ⟨c, 0, none⟩), .int .i64 seq] w fun e w' => e = .returned (.tuple #[.slice none 0 0, .int .i64 9]) ∧ w' = w := by
  obtain ⟨v, hv, _, _⟩ := h.ex
  obtain ⟨c0, c1, c2, c3, c4⟩ := cells5 hv
  clear h hv
  go_enter Try.func17, Try.ntmps17
  go_wp2
  exact bodyPost_ret (v := .tuple #[.slice none 0 0, .int .i64 9]) (by simp [results, Try.results17, go_sem]) rfl ⟨rfl, rfl⟩
set_option maxRecDepth 100000 in
theorem Since_arg {B c : Nat} {gb mb : Option Nat} {m : Int} {now : List Tx} {E : List Ent} {fl la : Int} {w : World} (h : IsOb B c gb mb m now E fl la w) (seq : Int) (hr : ¬ seq < fl) (hr2 : la < seq) : Calls Try.prog 17 #[.pointer (some ⟨c, 0, none⟩), .int .i64 seq] w fun e w' => e = .returned (.tuple #[.slice none 0 0, .int .i64 1]) ∧ w' = w := by
  obtain ⟨v, hv, _, _⟩ := h.ex
  obtain ⟨c0, c1, c2, c3, c4⟩ := cells5 hv
  clear h hv
  go_enter Try.func17, Try.ntmps17
  go_wp2
  exact bodyPost_ret (v := .tuple #[.slice none 0 0, .int .i64 1]) (by simp [results, Try.results17, go_sem]) rfl ⟨rfl, rfl⟩
def SnQ (l : List Ent) (w : World) (e : Ending) (w' : World) : Prop := ∃ v, e = .returned (.tuple #[v, .int .i64 0]) ∧ RdE v l w' ∧ Below w.heap.size w w'
set_option maxRecDepth 100000 in
set_option maxHeartbeats 4000000 in
theorem Since_ok {B c : Nat} {gb mb : Option Nat} {m : Int} {now : List Tx} {E : List Ent} {fl la : Int} {w : World} (h : IsOb B c gb mb m now E fl la w) (r : Nat) (hr : r ≤ E.length) (hla : fl + (E.length : Nat) = la) (hm : E.length ≤ 1000000) (hfl : 0 ≤ fl) (hfl2 : fl ≤ 1000000) (seq : Int) (hseq : seq = fl + (r : Nat)) :
    Calls Try.prog 17 #[.pointer (some ⟨c, 0, none⟩), .int .i64 seq] w (SnQ (E.drop r) w) := by
  obtain ⟨v, hv, ho, _⟩ := h.ex
  obtain ⟨c0, c1, c2, c3, c4⟩ := cells5 hv
  have HV := Lib.hid hv
  have hBW := bdr w
  have hcl := h.lt
  have g1 : ¬ seq < fl := by omega
  have g2 : ¬ la < seq := by omega
  have g3 : (0 : Int) ≤ (r : Int) := by omega
  have g4 : (r : Int) ≤ 1000000 := by omega
  have g7 : (r : Int) ≤ (E.length : Int) := by omega
  have gs : IntKind.i64.wrap (seq - fl) = (r : Int) := by rw [show seq - fl = (r : Int) by omega]; rw [IntKind.wrap_i64]; omega
  have hdl : (E.drop r).length = E.length - r := List.length_drop
  rcases ho.2 with ⟨rfl, h0⟩ | ⟨g, o, cap, rfl, h1, h2, h3, h4, h5, h6⟩
  · have hE : E = [] := List.eq_nil_of_length_eq_zero h0
    subst hE
    have hr0 : r = 0 := by simpa using hr
    subst hr0
    have HC0 := Lib.hid (clone_nil 0 0 w.drew)
    rw [List.drop_nil]
    have gs : IntKind.i64.wrap (seq - fl) = 0 := gs
    clear h hv ho hla hdl g3 g4 g7 hr h0 hseq hm
    go_enter Try.func17, Try.ntmps17
    go_upto_region 7 with (fail)
    go_region_held3 (fun V => V.cell? ⟨c, 2, none⟩ = some (.slice none 0 0) ∧ V.cell? ⟨c, 3, none⟩ = some (.int .i64 fl))
      (first | (with_reducible exact ⟨c2, c3⟩) | exact ⟨cell_of_row _ _ 2 _ _ _ HV.out, cell_of_row _ _ 3 _ _ _ HV.out⟩ | exact HS1.out)
      (first | (go_at_call 29; (with_reducible refine HC0.out.mono ?_); rintro e w2 ⟨v2, rfl, hrd, hb2⟩; have HR2 := Lib.hid hrd; have HB2 : Hid (Below w.heap.size w w2) := hBW.trans hb2; have HS1 : Hid (w2.cell? ⟨c, 2, none⟩ = some (.slice none 0 0) ∧ w2.cell? ⟨c, 3, none⟩ = some (.int .i64 fl)) := ⟨(HB2.out.cell (p := ⟨c, 2, none⟩) hcl).trans (cell_of_row _ _ 2 _ _ _ HV.out), (HB2.out.cell (p := ⟨c, 3, none⟩) hcl).trans (cell_of_row _ _ 3 _ _ _ HV.out)⟩; clear hrd hb2))
    all_goals
      go_wp2_with fail
      exact bodyPost_ret (v := .tuple #[v2, .int .i64 0]) (by simp [results, Try.results17, go_sem]) rfl ⟨v2, rfl, HR2.out, HB2.out⟩
  · have HC0 : Hid (∀ o2 c2, (0 < E.length - r → o2 = o + r * 4) → Calls Try.prog 29 #[.slice (some ⟨g, o2, none⟩) (E.length - r) c2] w.drew fun e w' => ∃ v, e = .returned v ∧ RdE v (E.drop r) w' ∧ Below w.drew.heap.size w.drew w') := fun o2 c2 ho2 => by
      refine clone_some g o2 c2 (E.length - r) (E.drop r) w.drew hdl ?_ (by omega)
      intro j u hu
      have hj : j < (E.length - r) * 4 := by
        rcases Nat.lt_or_ge j ((E.length - r) * 4) with q | q
        · exact q
        · rw [List.getElem?_eq_none (by rw [eC_len, hdl]; exact q)] at hu; cases hu
      rw [ho2 (by omega)]
      rw [eC_drop, List.getElem?_drop] at hu
      have := h5 _ _ hu
      rwa [← Nat.add_assoc] at this
    have i1 : (r : Int) ≤ (cap : Int) := by omega
    unfold maxLen at h4
    by_cases hrc : r = cap
    · have ecap : cap = E.length := by omega
      have HC1 : Hid (Calls Try.prog 29 #[.slice (some ⟨g, o, none⟩) 0 0] w.drew fun e w' => ∃ v, e = .returned v ∧ RdE v (E.drop r) w' ∧ Below w.drew.heap.size w.drew w') := by
        have := HC0.out o 0 (fun h => by omega)
        rwa [show E.length - r = 0 by omega] at this
      rw [ecap] at hrc
      subst ecap
      subst hrc
      clear h hv ho h1 h2 h3 h4 h5 h6 hdl HC0 hr i1 g7 hseq hla
      generalize E.drop E.length = E2 at *
      go_enter Try.func17, Try.ntmps17
      go_upto_region 7 with (fail)
      go_region_held3 (fun V => V.cell? ⟨c, 2, none⟩ = some (.slice (some ⟨g, o, none⟩) E.length E.length) ∧ V.cell? ⟨c, 3, none⟩ = some (.int .i64 fl))
        (first | (with_reducible exact ⟨c2, c3⟩) | exact ⟨cell_of_row _ _ 2 _ _ _ HV.out, cell_of_row _ _ 3 _ _ _ HV.out⟩ | exact HS1.out)
        (first | (go_at_call 29; (with_reducible refine HC1.out.mono ?_); rintro e w2 ⟨v2, rfl, hrd, hb2⟩; have HR2 := Lib.hid hrd; have HB2 : Hid (Below w.heap.size w w2) := hBW.trans hb2; have HS1 : Hid (w2.cell? ⟨c, 2, none⟩ = some (.slice (some ⟨g, o, none⟩) E.length E.length) ∧ w2.cell? ⟨c, 3, none⟩ = some (.int .i64 fl)) := ⟨(HB2.out.cell (p := ⟨c, 2, none⟩) hcl).trans (cell_of_row _ _ 2 _ _ _ HV.out), (HB2.out.cell (p := ⟨c, 3, none⟩) hcl).trans (cell_of_row _ _ 3 _ _ _ HV.out)⟩; clear hrd hb2))
      all_goals
        go_wp2_with fail
        exact bodyPost_ret (v := .tuple #[v2, .int .i64 0]) (by simp [results, Try.results17, go_sem]) rfl ⟨v2, rfl, HR2.out, HB2.out⟩
    · have hcz : ¬ (r : Int) = (cap : Int) := by omega
      have hcz2 : ¬ cap = r := by omega
      have HC1 : Hid (Calls Try.prog 29 #[.slice (some ⟨g, o + r * 4, none⟩) (E.length - r) (cap - r)] w.drew fun e w' => ∃ v, e = .returned v ∧ RdE v (E.drop r) w' ∧ Below w.drew.heap.size w.drew w') := HC0.out _ _ (fun _ => rfl)
      clear h hv ho h1 h2 h3 h4 h5 h6 hdl HC0 hr hrc hseq hla
      generalize E.drop r = E2 at *
      go_enter Try.func17, Try.ntmps17
      go_upto_region 7 with (fail)
      go_region_held3 (fun V => V.cell? ⟨c, 2, none⟩ = some (.slice (some ⟨g, o, none⟩) E.length cap) ∧ V.cell? ⟨c, 3, none⟩ = some (.int .i64 fl))
        (first | (with_reducible exact ⟨c2, c3⟩) | exact ⟨cell_of_row _ _ 2 _ _ _ HV.out, cell_of_row _ _ 3 _ _ _ HV.out⟩ | exact HS1.out)
        (first | (go_at_call 29; (with_reducible refine HC1.out.mono ?_); rintro e w2 ⟨v2, rfl, hrd, hb2⟩; have HR2 := Lib.hid hrd; have HB2 : Hid (Below w.heap.size w w2) := hBW.trans hb2; have HS1 : Hid (w2.cell? ⟨c, 2, none⟩ = some (.slice (some ⟨g, o, none⟩) E.length cap) ∧ w2.cell? ⟨c, 3, none⟩ = some (.int .i64 fl)) := ⟨(HB2.out.cell (p := ⟨c, 2, none⟩) hcl).trans (cell_of_row _ _ 2 _ _ _ HV.out), (HB2.out.cell (p := ⟨c, 3, none⟩) hcl).trans (cell_of_row _ _ 3 _ _ _ HV.out)⟩; clear hrd hb2))
      all_goals
        go_wp2_with fail
        exact bodyPost_ret (v := .tuple #[v2, .int .i64 0]) (by simp [results, Try.results17, go_sem]) rfl ⟨v2, rfl, HR2.out, HB2.out⟩
end Go.Proofs.Ytneogelhdikcaaa.Nt
