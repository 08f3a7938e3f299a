/-
  For any bytes, Next of package utf is as the document's own answer (of the first twenty bytes), and the chapter's example holds; where the two tables hold what the program's own text lays (the card ties it).
-/
import Derived.Test.YthepijohllemdaaDoorCards
import Derived.Test.YthepijohllemdaaDoorTie
import Derived.Test.YthepijohllemdaaDoorLaid
import Derived.ShutString
import Derived.ChangeOld
import Derived.SevenTiedAt
import Derived.Test.YthepijohllemdaaDoorNextR
namespace Go.Proofs.YthepijohllemdaaDoor.utfNext
open Go.ChangeShapes Go.WideShapes Go.ChangeAt Go.RowKit
open Go.ChangeMaps (open_string shut_string)
set_option linter.unusedVariables false
set_option linter.unusedSimpArgs false

theorem own : ownKnob Tryd.prog.godebug = none := by kernel_rfl
theorem laidOut : laidOutB Tryd.prog = true := by kernel_rfl

/-- WHAT THE WALK IS TOLD OF A SLICE OF BYTES THAT CAME IN -/
def IsRow (k : IntKind) (w : World) (a : Option Addr) (len cap : Nat) (zs : List Int) : Prop :=
  (a = none ∧ len = 0 ∧ cap = 0 ∧ zs = []) ∨
  ∃ x, a = some x ∧ len ≤ cap ∧ cap ≤ maxLen ∧ zs.length = cap ∧ (∀ i, i < zs.length → w.cell? (x.add i) = some (.int k (zs.getD i 0))) ∧ ∀ n ∈ zs, (Lit.int k n).wf = true

theorem sl_of {w : World} {a : Option Addr} {len cap : Nat} {zs : List Int} (h : IsRow .u8 w a len cap zs) (n : Nat) (hn : n ≤ len) : Sl w a (zs.take n) ∧ Byt (zs.take n) ∧ (zs.take n).length = n ∧ len ≤ cap ∧ cap ≤ maxLen := by
  rcases h with ⟨rfl, rfl, rfl, rfl⟩ | ⟨x, rfl, hl, hm, hz, hcell, hwz⟩
  · obtain rfl : n = 0 := by omega
    exact ⟨fun h => absurd rfl h, fun z hz => by simp at hz, rfl, by omega, by unfold maxLen; omega⟩
  · refine ⟨fun hne => ?_, fun z hz => bounds_u8 (hwz z (List.mem_of_mem_take hz)), by rw [List.length_take]; omega, hl, hm⟩
    have hp : 0 < n := by
      rcases Nat.eq_zero_or_pos n with h | h
      · subst h; simp at hne
      · exact h
    obtain ⟨b, off, spot⟩ := x
    have hc := hcell 0 (by omega)
    have hspot : spot = none := by simpa [Addr.add] using World.cell?_spot hc
    subst hspot
    refine ⟨b, off, rfl, ?_, fun j hj => ?_⟩
    · have := World.block_lt_of_cell? w _ hc
      simpa [Addr.add] using this
    · rw [List.length_take] at hj
      have e : (⟨b, off, none⟩ : Addr).add j = ⟨b, off + j, none⟩ := by unfold Addr.add; split <;> simp_all
      have := hcell j (by omega)
      rw [e] at this
      rw [this]
      simp [List.getD, List.getElem?_eq_getElem (show j < zs.length by omega)]

theorem key (zs : List Int) (hy : Byt zs) : (zs = [] ∧ nextE zs = tup3 0 0 6 ∧ nextW zs = (0, 0)) ∨ (zs ≠ [] ∧ nextE zs = tup3 0 0 11 ∧ nextW zs = (0, -1)) ∨ (zs ≠ [] ∧ nextE zs = tup3 0 0 3 ∧ nextW zs = (0, 0)) ∨
    (zs ≠ [] ∧ ∃ v k : Int, nextE zs = tup3 v k 0 ∧ nextW zs = (v, k) ∧ 1 ≤ k ∧ 0 ≤ v ∧ v ≤ 1114111) := by
  by_cases hz : zs = []
  · subst hz; exact .inl ⟨rfl, rfl, rfl⟩
  · have hE : nextE zs = if (nextR zs).2 = -1 then tup3 0 0 11 else if (nextR zs).2 = 0 then tup3 0 0 3 else tup3 (nextR zs).1 (nextR zs).2 0 := by unfold nextE; rw [if_neg hz]
    have hW : nextW zs = nextR zs := by unfold nextW; rw [if_neg hz]
    rw [hE, hW]
    have h4 := szI_le (gd zs 0)
    by_cases hs : szI (gd zs 0) = 0
    · have hR : nextR zs = (0, 0) := by unfold nextR; rw [if_pos hs]
      rw [hR]; exact .inr (.inr (.inl ⟨hz, rfl, rfl⟩))
    · by_cases hok : okTo zs (min zs.length (szI (gd zs 0)))
      · by_cases hl : zs.length < szI (gd zs 0)
        · have hR : nextR zs = (0, -1) := by unfold nextR; rw [if_neg hs, if_pos hok, if_pos hl]
          rw [hR]; exact .inr (.inl ⟨hz, rfl, rfl⟩)
        · have hR : nextR zs = (valT zs (szI (gd zs 0)), (szI (gd zs 0) : Int)) := by unfold nextR; rw [if_neg hs, if_pos hok, if_neg hl]
          rw [show min zs.length (szI (gd zs 0)) = szI (gd zs 0) by omega] at hok
          have he := (enc_iff zs _ hy (by omega) h4 (by omega)).2 ⟨rfl, hok⟩
          have hr := (isR_iff _).1 he.1
          rw [hR]
          refine .inr (.inr (.inr ⟨hz, _, _, ?_, rfl, by omega, hr.1, hr.2.1⟩))
          show (if ((szI (gd zs 0) : Nat) : Int) = -1 then tup3 0 0 11 else if ((szI (gd zs 0) : Nat) : Int) = 0 then tup3 0 0 3 else tup3 (valT zs (szI (gd zs 0))) (szI (gd zs 0)) 0) = _
          rw [if_neg (show ¬ ((szI (gd zs 0) : Nat) : Int) = -1 by omega), if_neg (show ¬ ((szI (gd zs 0) : Nat) : Int) = 0 by omega)]
      · have hR : nextR zs = (0, 0) := by unfold nextR; rw [if_neg hs, if_neg hok]
        rw [hR]; exact .inr (.inr (.inl ⟨hz, rfl, rfl⟩))


set_option maxHeartbeats 4000000 in
theorem walk (a0 : Option Addr) (len0 cap0 : Nat) (z0 : List Int) (w : World) (w0 : IsRow .u8 w a0 len0 cap0 z0) (hT : Tabs w) :
    Calls Tryd.prog 3 #[.slice a0 len0 cap0] w fun e w' => e = .returned (.bool true) ∧ Below w.heap.size w w' := by
  obtain ⟨n, hn, hn20⟩ : ∃ n, n = min len0 20 ∧ n ≤ len0 := ⟨_, rfl, by omega⟩
  obtain ⟨hA, hy, hl, hlc, hcm⟩ := sl_of w0 n hn20
  have HT := Lib.hid hT
  have HX := Lib.hid (next_c a0 n cap0 (z0.take n) w hT hA hy hl (by omega) hcm)
  have HR := Lib.hid (fun W (h : Sl W a0 (z0.take n)) => nextr_c a0 n cap0 (z0.take n) W h hy hl (by omega) hcm)
  have HA := Lib.hid hA
  have hkey := key (z0.take n) hy
  have HNE : Hid (z0.take n = [] ↔ n = 0) := ⟨fun h => by rw [h] at hl; simpa using hl.symm, fun h => by subst h; rfl⟩
  clear hA hy hl hT w0
  unfold maxLen at hcm
  revert HX HR HA hkey HNE
  generalize z0.take n = zs
  intro HX HR HA hkey HNE
  have hcut : (n = 20 ∧ 20 < len0) ∨ (n = len0 ∧ len0 ≤ 20) := by omega
  clear hn hn20
  rcases hcut with ⟨rfl, hgt⟩ | ⟨rfl, hle⟩
  · have hgt' : (20 : Int) < (len0 : Int) := by omega
    have hgc' : (20 : Int) ≤ (cap0 : Int) := by omega
    rcases hkey with ⟨hz, hE, hW⟩ | ⟨hz, hE, hW⟩ | ⟨hz, hE, hW⟩ | ⟨hz, v, k, hE, hW, hk1, hv0, hv1⟩
    · exact absurd (HNE.out.1 hz) (by decide)
    · rw [hE] at HX
      rw [hW] at HR
      simp only [tup3, tup2] at HX HR
      clear hz hE hW HNE
      go_enter Tryd.func3, Tryd.ntmps3
      go_wp2_with fail
      refine HX.out.mono ?_
      rintro e w1 ⟨rfl, hb1⟩
      have B1 := Lib.hid hb1
      have T1 := Lib.hid (HT.out.go hb1)
      have HR2 := Lib.hid (HR.out w1 (HA.out.go hb1))
      clear hb1 HX HR HA
      go_wp2_with fail
      refine HR2.out.mono ?_
      rintro e w2 ⟨rfl, hb2⟩
      have B2 : Hid (Below w.heap.size w w2) := B1.out.trans (hb2.mono B1.out.size)
      have HK := Lib.hid (awake_c w2 (T1.out.go hb2))
      clear hb2 HR2 B1
      go_wp2_with fail
      refine HK.out.mono ?_
      rintro e w3 ⟨rfl, hb3⟩
      have B3 : Hid (Below w.heap.size w w3) := B2.out.trans (hb3.mono B2.out.size)
      clear hb3
      go_wp2
      go_ret
      exact ⟨rfl, B3.out⟩
    · rw [hE] at HX
      rw [hW] at HR
      simp only [tup3, tup2] at HX HR
      clear hz hE hW HNE
      go_enter Tryd.func3, Tryd.ntmps3
      go_wp2_with fail
      refine HX.out.mono ?_
      rintro e w1 ⟨rfl, hb1⟩
      have B1 := Lib.hid hb1
      have T1 := Lib.hid (HT.out.go hb1)
      have HR2 := Lib.hid (HR.out w1 (HA.out.go hb1))
      clear hb1 HX HR HA
      go_wp2_with fail
      refine HR2.out.mono ?_
      rintro e w2 ⟨rfl, hb2⟩
      have B2 : Hid (Below w.heap.size w w2) := B1.out.trans (hb2.mono B1.out.size)
      have HK := Lib.hid (awake_c w2 (T1.out.go hb2))
      clear hb2 HR2 B1
      go_wp2_with fail
      refine HK.out.mono ?_
      rintro e w3 ⟨rfl, hb3⟩
      have B3 : Hid (Below w.heap.size w w3) := B2.out.trans (hb3.mono B2.out.size)
      clear hb3
      go_wp2
      go_ret
      exact ⟨rfl, B3.out⟩
    · rw [hE] at HX
      rw [hW] at HR
      simp only [tup3, tup2] at HX HR
      clear hz hE hW HNE
      have hk2 : (k == -1) = false := by simp; omega
      have hk3 : (k == 0) = false := by simp; omega
      go_enter Tryd.func3, Tryd.ntmps3
      go_wp2_with fail
      refine HX.out.mono ?_
      rintro e w1 ⟨rfl, hb1⟩
      have B1 := Lib.hid hb1
      have T1 := Lib.hid (HT.out.go hb1)
      have HR2 := Lib.hid (HR.out w1 (HA.out.go hb1))
      clear hb1 HX HR HA
      go_wp2_with fail
      refine HR2.out.mono ?_
      rintro e w2 ⟨rfl, hb2⟩
      have B2 : Hid (Below w.heap.size w w2) := B1.out.trans (hb2.mono B1.out.size)
      have HK := Lib.hid (awake_c w2 (T1.out.go hb2))
      clear hb2 HR2 B1
      go_wp2_with fail
      refine HK.out.mono ?_
      rintro e w3 ⟨rfl, hb3⟩
      have B3 : Hid (Below w.heap.size w w3) := B2.out.trans (hb3.mono B2.out.size)
      clear hb3
      go_wp2
      go_ret
      exact ⟨rfl, B3.out⟩
  · have hle' : ¬ ((20 : Int) < (n : Int)) := by omega
    rcases hkey with ⟨hz, hE, hW⟩ | ⟨hz, hE, hW⟩ | ⟨hz, hE, hW⟩ | ⟨hz, v, k, hE, hW, hk1, hv0, hv1⟩
    · obtain rfl := HNE.out.1 hz
      rw [hE] at HX
      rw [hW] at HR
      simp only [tup3, tup2] at HX HR
      clear hz hE hW HNE
      go_enter Tryd.func3, Tryd.ntmps3
      go_wp2_with fail
      refine HX.out.mono ?_
      rintro e w1 ⟨rfl, hb1⟩
      have B1 := Lib.hid hb1
      have T1 := Lib.hid (HT.out.go hb1)
      have HR2 := Lib.hid (HR.out w1 (HA.out.go hb1))
      clear hb1 HX HR HA
      go_wp2_with fail
      refine HR2.out.mono ?_
      rintro e w2 ⟨rfl, hb2⟩
      have B2 : Hid (Below w.heap.size w w2) := B1.out.trans (hb2.mono B1.out.size)
      have HK := Lib.hid (awake_c w2 (T1.out.go hb2))
      clear hb2 HR2 B1
      go_wp2_with fail
      refine HK.out.mono ?_
      rintro e w3 ⟨rfl, hb3⟩
      have B3 : Hid (Below w.heap.size w w3) := B2.out.trans (hb3.mono B2.out.size)
      clear hb3
      go_wp2
      go_ret
      exact ⟨rfl, B3.out⟩
    · have hn0 : ¬ n = 0 := fun e => hz (HNE.out.2 e)
      have hne : ((n : Int) == 0) = false := by simp; omega
      rw [hE] at HX
      rw [hW] at HR
      simp only [tup3, tup2] at HX HR
      clear hz hE hW HNE
      go_enter Tryd.func3, Tryd.ntmps3
      go_wp2_with fail
      refine HX.out.mono ?_
      rintro e w1 ⟨rfl, hb1⟩
      have B1 := Lib.hid hb1
      have T1 := Lib.hid (HT.out.go hb1)
      have HR2 := Lib.hid (HR.out w1 (HA.out.go hb1))
      clear hb1 HX HR HA
      go_wp2_with fail
      refine HR2.out.mono ?_
      rintro e w2 ⟨rfl, hb2⟩
      have B2 : Hid (Below w.heap.size w w2) := B1.out.trans (hb2.mono B1.out.size)
      have HK := Lib.hid (awake_c w2 (T1.out.go hb2))
      clear hb2 HR2 B1
      go_wp2_with fail
      refine HK.out.mono ?_
      rintro e w3 ⟨rfl, hb3⟩
      have B3 : Hid (Below w.heap.size w w3) := B2.out.trans (hb3.mono B2.out.size)
      clear hb3
      go_wp2
      go_ret
      exact ⟨rfl, B3.out⟩
    · have hn0 : ¬ n = 0 := fun e => hz (HNE.out.2 e)
      have hne : ((n : Int) == 0) = false := by simp; omega
      rw [hE] at HX
      rw [hW] at HR
      simp only [tup3, tup2] at HX HR
      clear hz hE hW HNE
      go_enter Tryd.func3, Tryd.ntmps3
      go_wp2_with fail
      refine HX.out.mono ?_
      rintro e w1 ⟨rfl, hb1⟩
      have B1 := Lib.hid hb1
      have T1 := Lib.hid (HT.out.go hb1)
      have HR2 := Lib.hid (HR.out w1 (HA.out.go hb1))
      clear hb1 HX HR HA
      go_wp2_with fail
      refine HR2.out.mono ?_
      rintro e w2 ⟨rfl, hb2⟩
      have B2 : Hid (Below w.heap.size w w2) := B1.out.trans (hb2.mono B1.out.size)
      have HK := Lib.hid (awake_c w2 (T1.out.go hb2))
      clear hb2 HR2 B1
      go_wp2_with fail
      refine HK.out.mono ?_
      rintro e w3 ⟨rfl, hb3⟩
      have B3 : Hid (Below w.heap.size w w3) := B2.out.trans (hb3.mono B2.out.size)
      clear hb3
      go_wp2
      go_ret
      exact ⟨rfl, B3.out⟩
    · have hn0 : ¬ n = 0 := fun e => hz (HNE.out.2 e)
      have hne : ((n : Int) == 0) = false := by simp; omega
      rw [hE] at HX
      rw [hW] at HR
      simp only [tup3, tup2] at HX HR
      clear hz hE hW HNE
      have hk2 : (k == -1) = false := by simp; omega
      have hk3 : (k == 0) = false := by simp; omega
      go_enter Tryd.func3, Tryd.ntmps3
      go_wp2_with fail
      refine HX.out.mono ?_
      rintro e w1 ⟨rfl, hb1⟩
      have B1 := Lib.hid hb1
      have T1 := Lib.hid (HT.out.go hb1)
      have HR2 := Lib.hid (HR.out w1 (HA.out.go hb1))
      clear hb1 HX HR HA
      go_wp2_with fail
      refine HR2.out.mono ?_
      rintro e w2 ⟨rfl, hb2⟩
      have B2 : Hid (Below w.heap.size w w2) := B1.out.trans (hb2.mono B1.out.size)
      have HK := Lib.hid (awake_c w2 (T1.out.go hb2))
      clear hb2 HR2 B1
      go_wp2_with fail
      refine HK.out.mono ?_
      rintro e w3 ⟨rfl, hb3⟩
      have B3 : Hid (Below w.heap.size w w3) := B2.out.trans (hb3.mono B2.out.size)
      clear hb3
      go_wp2
      go_ret
      exact ⟨rfl, B3.out⟩

set_option maxRecDepth 100000 in
theorem lifted (os : Os) (started : os.Started) (H : Type) (enc : TypeId × Value → H) :
    ReturnsInHanded {} Tryd.checked os 3 .any (fun w args => (Rows.utfNextSpec.pre enc Tryd.prog Tryd.f3 [] false w args ∧ laidMetH Tryd.prog [("larum/utf.firsts", Rows.laid_larum_utf_firsts), ("larum/utf.leads", Rows.laid_larum_utf_leads)] w) ∧ sizedMet enc Tryd.prog Tryd.f3 (OpenSpec.ofChange Rows.utfNextSpec) false w args)
      (Rows.utfNextSpec.post enc Tryd.prog Tryd.f3 false true false false) := by
  refine returnsInHanded_of_change_and (C := Tryd.checked) (X := fun w _ => laidMetH Tryd.prog [("larum/utf.firsts", Rows.laid_larum_utf_firsts), ("larum/utf.leads", Rows.laid_larum_utf_leads)] w) (fun _ _ _ hh h => h.of_heap hh) own started (by kernel_rfl) Tryd.func3
    (ChangeSpec.witness_shaped (enc := enc) (C := Tryd.checked) (os := os) (X := fun w _ => laidMetH Tryd.prog [("larum/utf.firsts", Rows.laid_larum_utf_firsts), ("larum/utf.leads", Rows.laid_larum_utf_leads)] w) false (World.doorLaid Tryd.prog 400 os) #[.slice none 0 0] 8 rfl (World.shaped_of_RefB (by kernel_rfl) (by kernel_rfl)) (by kernel_rfl) (by kernel_rfl) (by kernel_rfl) (door_met os _)) ?_
  intro W base args ds gs before hval0 hW _ _ hL _
  have hval : ∀ (j : Nat) t v, Tryd.f3.params[j]? = some t → args[j]? = some v → Value.okWide Tryd.prog W .any base t v := hval0
  have hW' := hW
  obtain ⟨p, q, hA0, hV, rfl, hfz, hnd⟩ := hW
  have hA : DataW.TrodAll enc Tryd.prog W 0 (fun _ => true) true Tryd.f3.params.toList args.toList ds p := hA0
  rw [Tryd.params3] at hA hval
  obtain ⟨v0, vs0, d0, ds0, p0, q0, hargs, rfl, rfl, h0, r0⟩ := trodAll_cons hA
  obtain ⟨rfl, rfl, rfl⟩ := trodAll_nil r0
  obtain rfl : args = #[v0] := by cases args; simp_all
  obtain ⟨rfl, rfl⟩ := trodVars_none hV
  obtain ⟨a0, len0, cap0, rfl⟩ := okWide_slice Tryd.underlying22 (hval 0 22 v0 rfl rfl)
  have k0 := h0
  have lt0 : ∀ x ∈ p0, x.block < W.heap.size := by obtain ⟨m, hm⟩ := k0; exact DataW.trod_lt m _ _ _ hm
  obtain ⟨z0, w0⟩ : ∃ zs, IsRow .u8 W a0 len0 cap0 zs := by
    obtain ⟨fuel, hf⟩ := h0
    rcases open_ints Tryd.underlying22 Tryd.underlying5 (by kernel_rfl) hf with ⟨hcs, _⟩ | ⟨x, l, c, zs, hcs, _, hl, hm, hz, _, hcell, hwz⟩
    · simp [Value.cells] at hcs
      obtain ⟨rfl, rfl, rfl⟩ := hcs
      exact ⟨[], .inl ⟨rfl, rfl, rfl, rfl⟩⟩
    · simp [Value.cells] at hcs
      obtain ⟨rfl, rfl, rfl⟩ := hcs
      exact ⟨zs, .inr ⟨_, rfl, hl, hm, by simpa using hz, hcell, hwz⟩⟩
  clear hA0 hval0
  have hT := of_laid hL
  refine (walk a0 len0 cap0 z0 W w0 hT).mono fun e W' ⟨he, bel⟩ => ?_
  subst he
  exact ⟨_, rfl, _, _, _, [], _, [], hW', trodAll_mk1 (shut_bool Tryd.underlying4 _), (trodAll_cons_mk (Below.trod laidOut (by kernel_rfl) (of_decide_eq_true (by kernel_rfl)) k0 bel lt0) trodAll_mk0), rfl, bel.frame _, fun h => by cases h⟩

theorem over : Rows.UtfNextSaid :=
  OpenClaim.holds_of_wide 3 Tryd.f3 rfl rfl rfl rfl rfl rfl rfl ⟨rfl, rfl, rfl, rfl, rfl⟩ rfl rfl rfl rfl rfl (by kernel_rfl) Tryd.func3 (by kernel_rfl)
    (of_decide_eq_true (by kernel_rfl)) (by unfold Func.isWrapper; first | (rw [if_pos (by decide +kernel)]; kernel_rfl) | (rw [if_neg (by decide +kernel)]; exact ⟨rfl, rfl⟩))
    (fun os started H enc _ => lifted os started H enc)
end Go.Proofs.YthepijohllemdaaDoor.utfNext
namespace Go.Proofs.YthepijohllemdaaDoor
theorem utfNext_card : Rows.UtfNextCardSaid :=
  Claim7.holds_tied_plain_at .later [] [.data, .data] true (true, "5a88f8ac1afdae99643bef678160593da0a619f8695168da0bc9806d527633f8") false
    utfNext.over (fun _ h => by cases h) (by kernel_rfl) (fun _ h => by cases h) utfNext_row_tie rfl ⟨rfl, rfl⟩ (by kernel_rfl) rfl
    (fun f fn hf hfn => by
      obtain rfl : f = 3 := Option.some.inj ((show Tryd.prog.funcNamed Tryd.f3.name = some 3 by kernel_rfl).symm.trans hf) |>.symm
      obtain rfl : fn = Tryd.f3 := (Option.some.inj (Tryd.func3.symm.trans hfn)).symm
      exact ⟨by kernel_rfl, fun j t ht => by
        rw [Tryd.params3] at ht
        have hm : t ∈ [22] := by simpa using Array.mem_of_getElem? ht
        have hall : ([22].all fun u => !Tryd.prog.wantsStandIn u) = true := by kernel_rfl
        exact (show Tryd.prog.wantsStandIn t = false by simpa using List.all_eq_true.1 hall t hm)⟩)
    (by kernel_rfl)
#print axioms utfNext_card
end Go.Proofs.YthepijohllemdaaDoor
