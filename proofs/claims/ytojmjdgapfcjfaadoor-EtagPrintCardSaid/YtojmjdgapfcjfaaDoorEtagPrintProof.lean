/-
  EtagPrint (P9.1, P9.3): for every mark (its text cut to eighty bytes), package etag's Print answers what the document's own Print answers, or ErrForm where its text has another byte, and One of what is printed is the mark; chapter 9's example comes out. Condition: the listed variables of the library lie as the program's text lays them (tied card).
-/
import Derived.Test.YtojmjdgapfcjfaaDoorCards
import Derived.Test.YtojmjdgapfcjfaaDoorTie
import Derived.Test.YtojmjdgapfcjfaaDoorNuLaid
import Derived.ShutString
import Derived.ChangeOld
import Derived.SevenTiedAt
import Derived.Lib.SmallJoins
import Derived.Test.YtojmjdgapfcjfaaDoorEtPrint
namespace Go.Proofs.YtojmjdgapfcjfaaDoor.etagPrint
open Go.ChangeShapes Go.WideShapes Go.ChangeAt Go.RowKit
open Go.ChangeMaps (open_string shut_string)
open Go.Proofs.YtojmjdgapfcjfaaDoor.Ch
open Go.Proofs.YtojmjdgapfcjfaaDoor.Et
set_option linter.unusedVariables false
set_option linter.unusedSimpArgs false

theorem own : ownKnob Tryd.prog.godebug = none := by kernel_rfl
theorem laidOut : laidOutB Tryd.prog = true := by kernel_rfl

theorem new2 (w : World) (a b : Value) (T : TypeId) : (w.alloc (.cells #[a, b] T)).cell? ⟨w.heap.size, 0, none⟩ = some a ∧ (w.alloc (.cells #[a, b] T)).cell? ⟨w.heap.size, 1, none⟩ = some b := by
  have hk := heap_alloc_new w (.cells #[a, b] T)
  exact ⟨cell_of_row _ _ 0 _ _ _ hk, cell_of_row _ _ 1 _ _ _ hk⟩
set_option maxRecDepth 100000 in
set_option maxHeartbeats 4000000 in
theorem walk (b : Bool) (x0 : ByteArray) (w0 : x0.size ≤ maxLen) (w : World) (hT : Nu.Tabs w) :
    Calls Tryd.prog 3 #[.agg #[.bool b, .string x0]] w fun e w' => e = .returned (.bool true) ∧ Below w.heap.size w w' := by
  have hsh := Lib.hid (fun W => short_c x0 W w0)
  have hsz := short_sz x0
  revert hsh hsz
  generalize mkS (Et.shortL x0.data.toList) = s
  intro hsh hsz
  have HT := Lib.hid hT
  have hs := stood
  clear hT
  have HP := Lib.hid (fun W => Print_c b s W (by omega))
  have HR := Lib.hid (fun W => right_r s W (by omega))
  have HQ := Lib.hid (fun W => PrintR_c b s W (by omega))
  unfold prV at HP
  simp only at HP
  have htl := txt_len (b, s.data.toList)
  have hss : s = mkS s.data.toList := mkS_of rfl
  have hst : (mkS (txt (b, s.data.toList))).size ≤ 1000 := by rw [size_mkS]; unfold txt; cases b <;> (simp; omega)
  have HO := Lib.hid (fun W => One_c (mkS (txt (b, s.data.toList))) W hst)
  rw [data_mkS] at HO
  cases hm : mkA s.data.toList with
  | false =>
    rw [hm] at HP HR
    rw [if_neg (by simp)] at HP
    clear hm HO HQ htl hss hst
    go_enter Tryd.func3, Tryd.ntmps3
    go_wp2_with fail
    refine (hsh.out _).mono ?_
    rintro e w1 ⟨rfl, hw⟩
    rw [← hw]; clear hw
    go_wp2_with fail
    refine (HP.out _).mono ?_
    rintro e w2 ⟨rfl, hb2⟩
    obtain ⟨n0, n1⟩ := new2 w (.bool b) (.string s) 23
    have hl : w.heap.size < (w.alloc (.cells #[.bool b, .string s] 23)).heap.size := by rw [World.size_alloc]; exact Nat.lt_succ_self _
    have d0 := (hb2.cell (p := ⟨w.heap.size, 0, none⟩) hl).trans n0
    have d1 := (hb2.cell (p := ⟨w.heap.size, 1, none⟩) hl).trans n1
    have HB2 : Hid (Below w.heap.size w w2) := ((Below.refl _ _).alloc (Nat.le_refl _) _).trans (hb2.mono (Nat.le_of_lt hl))
    have HT2 : Hid (Nu.Tabs w2) := HT.out.below HB2.out (Nat.le_refl _)
    clear hb2 n0 n1 hl
    go_wp2_with fail
    refine (HR.out _).mono ?_
    rintro e w3 ⟨rfl, hw⟩
    rw [← hw]; clear hw
    go_wp2_with fail
    refine (awake_c _ HT2.out).mono ?_
    rintro e w9 ⟨rfl, hb9⟩
    have HB9 := Lib.hid hb9
    clear hb9
    go_wp2
    go_ret
    exact ⟨rfl, HB2.out.trans (HB9.out.mono HB2.out.size)⟩
  | true =>
    have HM := Lib.hid hm
    have ho : oneL (txt (b, s.data.toList)) = some (b, s.data.toList) := oneL_some.2 ⟨rfl, hm⟩
    rw [ho] at HO
    have HO2 : Hid (∀ W, Calls Tryd.prog 12 #[.string (mkS (txt (b, s.data.toList)))] W fun e w' => e = .returned (.tuple #[.agg #[.bool b, .string s], .int .i64 0]) ∧ Below W.heap.size W w') := by
      have h := HO.out
      simp only [tgA] at h
      rw [← hss] at h
      exact h
    rw [hm] at HP HR
    rw [if_pos rfl] at HP
    clear hm ho HO htl hss
    revert HO2 HP HQ hst
    generalize mkS (txt (b, s.data.toList)) = sp
    intro HP HQ hst HO2
    go_enter Tryd.func3, Tryd.ntmps3
    go_wp2_with fail
    refine (hsh.out _).mono ?_
    rintro e w1 ⟨rfl, hw⟩
    rw [← hw]; clear hw
    go_wp2_with fail
    refine (HP.out _).mono ?_
    rintro e w2 ⟨rfl, hb2⟩
    obtain ⟨n0, n1⟩ := new2 w (.bool b) (.string s) 23
    have hl : w.heap.size < (w.alloc (.cells #[.bool b, .string s] 23)).heap.size := by rw [World.size_alloc]; exact Nat.lt_succ_self _
    have d0 := (hb2.cell (p := ⟨w.heap.size, 0, none⟩) hl).trans n0
    have d1 := (hb2.cell (p := ⟨w.heap.size, 1, none⟩) hl).trans n1
    have HB2 : Hid (Below w.heap.size w w2) := ((Below.refl _ _).alloc (Nat.le_refl _) _).trans (hb2.mono (Nat.le_of_lt hl))
    have hl2 : w.heap.size < w2.heap.size := Nat.lt_of_lt_of_le hl hb2.size
    clear hb2 n0 n1 hl
    go_wp2_with fail
    refine (HR.out _).mono ?_
    rintro e w3 ⟨rfl, hw⟩
    rw [← hw]; clear hw
    go_wp2_with fail
    refine (HO2.out _).mono ?_
    rintro e w4 ⟨rfl, hb4⟩
    have e0 := (hb4.cell (p := ⟨w.heap.size, 0, none⟩) hl2).trans d0
    have e1 := (hb4.cell (p := ⟨w.heap.size, 1, none⟩) hl2).trans d1
    have HB4 : Hid (Below w.heap.size w w4) := HB2.out.trans (hb4.mono HB2.out.size)
    have hl4 : w.heap.size < w4.heap.size := Nat.lt_of_lt_of_le hl2 hb4.size
    have hn4 : w.heap.size ≠ w4.heap.size := by omega
    clear hb4 d0 d1 hl2
    obtain ⟨n0, n1⟩ := new2 w4 (.bool b) (.string s) 28
    have HE : Hid ((w4.alloc (.cells #[.bool b, .string s] 28)).cell? ⟨w.heap.size, 0, none⟩ = some (.bool b) ∧ (w4.alloc (.cells #[.bool b, .string s] 28)).cell? ⟨w.heap.size, 1, none⟩ = some (.string s)) := by
      have hb : Below w4.heap.size w4 (w4.alloc (.cells #[.bool b, .string s] 28)) := (Below.refl _ _).alloc (Nat.le_refl _) _
      exact ⟨(hb.cell (p := ⟨w.heap.size, 0, none⟩) hl4).trans e0, (hb.cell (p := ⟨w.heap.size, 1, none⟩) hl4).trans e1⟩
    have HN : Hid ((w4.alloc (.cells #[.bool b, .string s] 28)).cell? ⟨w4.heap.size, 0, none⟩ = some (.bool b) ∧ (w4.alloc (.cells #[.bool b, .string s] 28)).cell? ⟨w4.heap.size, 1, none⟩ = some (.string s)) := ⟨n0, n1⟩
    clear n0 n1
    go_wp2_with fail
    refine (HQ.out _).mono ?_
    rintro e w5 ⟨rfl, hb5⟩
    have g0 := (hb5.cell (p := ⟨w.heap.size, 0, none⟩) (by rw [World.size_alloc]; show w.heap.size < _; omega)).trans HE.out.1
    have g1 := (hb5.cell (p := ⟨w.heap.size, 1, none⟩) (by rw [World.size_alloc]; show w.heap.size < _; omega)).trans HE.out.2
    have f0 := (hb5.cell (p := ⟨w4.heap.size, 0, none⟩) (by rw [World.size_alloc]; show w4.heap.size < _; omega)).trans HN.out.1
    have f1 := (hb5.cell (p := ⟨w4.heap.size, 1, none⟩) (by rw [World.size_alloc]; show w4.heap.size < _; omega)).trans HN.out.2
    have HB5 : Hid (Below w.heap.size w w5) := (HB4.out.alloc HB4.out.size _).trans (hb5.mono (by rw [World.size_alloc]; have := HB4.out.size; omega))
    have HT5 : Hid (Nu.Tabs w5) := HT.out.below HB5.out (Nat.le_refl _)
    clear hb5 e0 e1
    go_wp2_with fail
    refine (awake_c _ HT5.out).mono ?_
    rintro e w9 ⟨rfl, hb9⟩
    have HB9 := Lib.hid hb9
    clear hb9
    go_wp2
    go_ret
    exact ⟨rfl, HB5.out.trans (HB9.out.mono HB5.out.size)⟩

set_option maxRecDepth 100000 in
theorem lifted (os : Os) (started : os.Started) (H : Type) (enc : TypeId × Value → H) :
    ReturnsInHanded {} Tryd.checked os 3 .any (fun w args => (Rows.etagPrintSpec.pre enc Tryd.prog Tryd.f3 [] false w args ∧ laidMetH Tryd.prog [("math/bits.deBruijn32tab", Rows.laid_math_bits_deBruijn32tab), ("math/bits.deBruijn64tab", Rows.laid_math_bits_deBruijn64tab), ("internal/strconv.uint64pow10", Rows.laid_internal_strconv_uint64pow10)] w) ∧ sizedMet enc Tryd.prog Tryd.f3 (OpenSpec.ofChange Rows.etagPrintSpec) false w args)
      (Rows.etagPrintSpec.post enc Tryd.prog Tryd.f3 false true false false) := by
  refine returnsInHanded_of_change_and (C := Tryd.checked) (X := fun w _ => laidMetH Tryd.prog [("math/bits.deBruijn32tab", Rows.laid_math_bits_deBruijn32tab), ("math/bits.deBruijn64tab", Rows.laid_math_bits_deBruijn64tab), ("internal/strconv.uint64pow10", Rows.laid_internal_strconv_uint64pow10)] w) (fun _ _ _ hh h => h.of_heap hh) own started (by kernel_rfl) Tryd.func3
    (ChangeSpec.witness_shaped (enc := enc) (C := Tryd.checked) (os := os) (X := fun w _ => laidMetH Tryd.prog [("math/bits.deBruijn32tab", Rows.laid_math_bits_deBruijn32tab), ("math/bits.deBruijn64tab", Rows.laid_math_bits_deBruijn64tab), ("internal/strconv.uint64pow10", Rows.laid_internal_strconv_uint64pow10)] w) false (World.doorLaid Tryd.prog 400 os) #[.agg #[.bool false, .string ByteArray.empty]] 8 rfl (World.shaped_of_RefB (by kernel_rfl) (by kernel_rfl)) (by kernel_rfl) (by kernel_rfl) (by kernel_rfl) (Nu.door_met os _)) ?_
  intro W base args ds gs before hval0 hW _ _ hL _
  have hval : ∀ (j : Nat) t v, Tryd.f3.params[j]? = some t → args[j]? = some v → Value.okWide Tryd.prog W .any base t v := hval0
  have hW' := hW
  obtain ⟨p, q, hA0, hV, rfl, hfz, hnd⟩ := hW
  have hA : DataW.TrodAll enc Tryd.prog W 0 (fun _ => true) true Tryd.f3.params.toList args.toList ds p := hA0
  rw [Tryd.params3] at hA hval
  obtain ⟨v0, vs0, d0, ds0, p0, q0, hargs, rfl, rfl, h0, r0⟩ := trodAll_cons hA
  obtain ⟨rfl, rfl, rfl⟩ := trodAll_nil r0
  obtain rfl : args = #[v0] := by cases args; simp_all
  obtain ⟨rfl, rfl⟩ := trodVars_none hV
  have k0 := h0
  have lt0 : ∀ x ∈ p0, x.block < W.heap.size := by obtain ⟨m, hm⟩ := k0; exact DataW.trod_lt m _ _ _ hm
  obtain ⟨u0a, u0b, y0a, y0b, n0, rfl, _, _, hf0a, hf0b⟩ := Joins.open_agg2 Tryd.underlying23 (by kernel_rfl) (by kernel_rfl) (hval 0 23 v0 rfl rfl) h0
  obtain ⟨b0, e0a, _⟩ := DataW.trod_bool Tryd.underlying4 hf0a
  obtain ⟨x0, e0b, _, w0⟩ := DataW.trod_string Tryd.underlying9 hf0b
  obtain rfl : u0a = .bool b0 := by simpa using e0a
  obtain rfl : u0b = .string x0 := by simpa using e0b
  clear hA0 hval0
  have hT := Nu.of_laid hL
  refine (walk b0 x0 w0 W hT).mono fun e W' ⟨he, bel⟩ => ?_
  subst he
  exact ⟨_, rfl, _, _, _, [], _, [], hW', trodAll_mk1 (shut_bool Tryd.underlying4 _), (trodAll_cons_mk (Below.trod laidOut (by kernel_rfl) (of_decide_eq_true (by kernel_rfl)) k0 bel lt0) trodAll_mk0), rfl, bel.frame _, fun h => by cases h⟩

theorem over : Rows.EtagPrintSaid :=
  OpenClaim.holds_of_wide 3 Tryd.f3 rfl rfl rfl rfl rfl rfl rfl ⟨rfl, rfl, rfl, rfl, rfl⟩ rfl rfl rfl rfl rfl (by kernel_rfl) Tryd.func3 (by kernel_rfl)
    (of_decide_eq_true (by kernel_rfl)) (by unfold Func.isWrapper; first | (rw [if_pos (by decide +kernel)]; kernel_rfl) | (rw [if_neg (by decide +kernel)]; exact ⟨rfl, rfl⟩))
    (fun os started H enc _ => lifted os started H enc)
end Go.Proofs.YtojmjdgapfcjfaaDoor.etagPrint
namespace Go.Proofs.YtojmjdgapfcjfaaDoor
theorem etagPrint_card : Rows.EtagPrintCardSaid :=
  Claim7.holds_tied_plain_at .later [] [.data, .data, .data] true (true, "914a9bb9b9637a45452587cbd278f72a662e2d63687d4ca143f048852a48901a") false
    etagPrint.over (fun _ h => by cases h) (by kernel_rfl) (fun _ h => by cases h) etagPrint_row_tie rfl ⟨rfl, rfl⟩ (by kernel_rfl) rfl
    (fun f fn hf hfn => by
      obtain rfl : f = 3 := Option.some.inj ((show Tryd.prog.funcNamed Tryd.f3.name = some 3 by kernel_rfl).symm.trans hf) |>.symm
      obtain rfl : fn = Tryd.f3 := (Option.some.inj (Tryd.func3.symm.trans hfn)).symm
      exact ⟨by kernel_rfl, fun j t ht => by
        rw [Tryd.params3] at ht
        have hm : t ∈ [23] := by simpa using Array.mem_of_getElem? ht
        have hall : ([23].all fun u => !Tryd.prog.wantsStandIn u) = true := by kernel_rfl
        exact (show Tryd.prog.wantsStandIn t = false by simpa using List.all_eq_true.1 hall t hm)⟩)
    (by kernel_rfl)
#print axioms etagPrint_card
end Go.Proofs.YtojmjdgapfcjfaaDoor
