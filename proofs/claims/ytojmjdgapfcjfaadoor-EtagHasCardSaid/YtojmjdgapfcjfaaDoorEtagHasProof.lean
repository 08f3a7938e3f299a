/-
  EtagHas (P9.2): for every list of marks (of which eight are taken), whether it is any, and every mark, package etag's Has answers as the chapter says; chapter 9's example comes out. Condition: the listed variables of the library lie as the program's text lays them (tied card).
-/
import Derived.Test.YtojmjdgapfcjfaaDoorCards
import Derived.Test.YtojmjdgapfcjfaaDoorTie
import Derived.Test.YtojmjdgapfcjfaaDoorNuLaid
import Derived.ShutString
import Derived.ChangeOld
import Derived.SevenTiedAt
import Derived.Lib.SmallJoins
import Derived.Test.YtojmjdgapfcjfaaDoorEtArgs
namespace Go.Proofs.YtojmjdgapfcjfaaDoor.etagHas
open Go.ChangeShapes Go.WideShapes Go.ChangeAt Go.RowKit
open Go.ChangeMaps (open_string shut_string)
open Go.Proofs.YtojmjdgapfcjfaaDoor.Ch
open Go.Proofs.YtojmjdgapfcjfaaDoor.Et
set_option linter.unusedVariables false
set_option linter.unusedSimpArgs false

theorem own : ownKnob Tryd.prog.godebug = none := by kernel_rfl
theorem laidOut : laidOutB Tryd.prog = true := by kernel_rfl

theorem beq_dec (a b : List UInt8) : (a == b) = decide (a = b) := by
  by_cases h : a = b
  · subst h; simp
  · rw [decide_eq_false h]; simpa using h
set_option maxRecDepth 100000 in
set_option maxHeartbeats 8000000 in
theorem walk (a0 : Option Addr) (len0 cap0 : Nat) (ts : List (Bool × ByteArray)) (w : World) (w0 : IsTags w a0 len0 ts) (each : Bool) (b : Bool) (x : ByteArray) (wx : x.size ≤ maxLen) (hT : Nu.Tabs w) :
    Calls Tryd.prog 5 #[.slice a0 len0 cap0, .bool each, .agg #[.bool b, .string x]] w fun e w' => e = .returned (.bool true) ∧ Below w.heap.size w w' := by
  obtain ⟨hlen, hmax, hsz, hcell⟩ := w0
  subst hlen
  unfold maxLen at hmax
  have HT := Lib.hid hT
  have HC := Lib.hid hcell
  have hs := stood
  obtain ⟨i0, hi, hz0, hz1, hz2⟩ := info_parts infoT
  clear hT hcell hsz
  have HW : Hid (∃ W, W = (w.alloc (.cells #[.bool b, .string x] 23)).alloc (.cells #[.bool each, .slice none 0 0] 39) ∧ HsR w b each x [] W) := by
    refine ⟨_, rfl, none, 0, ?_, ?_, World.ownsRow_nil _ _ _ _, ((Below.refl _ _).alloc (Nat.le_refl _) _).alloc (by simp) _, by simp⟩
    · have hb := (Below.refl (w.heap.size + 1) (w.alloc (.cells #[.bool b, .string x] 23))).alloc (by simp) (.cells #[.bool each, .slice none 0 0] 39)
      exact (hb.block _ (by omega)).trans (heap_alloc_new w _)
    · have := heap_alloc_new (w.alloc (.cells #[.bool b, .string x] 23)) (.cells #[.bool each, .slice none 0 0] 39)
      simpa using this
  obtain ⟨W, hW, hR⟩ := HW.out
  have HWE := Lib.hid hW
  have HR0 := Lib.hid hR
  clear HW hW hR
  go_enter Tryd.func5, Tryd.ntmps5
  go_wp2
  rw [← HWE.out]
  clear HWE
  go_loopw [8, 16] (fun v i wr => ∃ j : Nat, j ≤ ts.length ∧ j ≤ 8 ∧ i = .int .i64 j ∧ v = .bool (each || anyL ((tl ts).take j) x.data.toList) ∧ HsR w b each x ((tl ts).take j) wr) (fun _ i _ => ts.length - (intOf i).toNat)
  case atStart => exact ⟨0, by omega, by omega, rfl, by cases each <;> rfl, HR0.out⟩
  case round =>
    clear HR0
    obtain ⟨j, hj, hj8, rfl, rfl, hR⟩ := hrel
    have HR := Lib.hid hR
    have hwsz : w.heap.size + 2 ≤ wr.heap.size := by obtain ⟨_, _, _, _, _, _, h⟩ := hR; exact h
    have HBR : Hid (Below w.heap.size w wr) := by obtain ⟨_, _, _, _, _, h, _⟩ := hR; exact h
    clear hR
    by_cases hlt : j < ts.length
    · obtain ⟨g, off, ea, hg, hat⟩ := HC.out (by intro h; rw [h] at hlt; simp at hlt)
      subst ea
      have p0 : wr.cell? ⟨g, off + j * 2, none⟩ = some (.bool ts[j].1) := (HBR.out.cell (p := ⟨g, off + j * 2, none⟩) hg).trans (hat j hlt).1
      have p1 : wr.cell? ⟨g, off + j * 2 + 1, none⟩ = some (.string ts[j].2) := (HBR.out.cell (p := ⟨g, off + j * 2 + 1, none⟩) hg).trans (hat j hlt).2
      have hj0 : (0 : Int) ≤ (j : Int) := by omega
      have hjl : (j : Int) < (ts.length : Int) := by omega
      have hne : g ≠ wr.heap.size := by have := HBR.out.size; omega
      clear hat
      by_cases h8 : j < 8
      · have h8' : (j : Int) < 8 := by omega
        have HST := Lib.hid (anyL_step hlt each x.data.toList)
        have HTK := Lib.hid (tl_take hlt)
        have hlk : ((tl ts).take j).length = j := by rw [List.length_take, tl_len]; omega
        have HLK := Lib.hid hlk
        clear hlk
        revert p0 p1 HST HTK
        generalize ts[j].2 = y
        generalize ts[j].1 = bj
        intro p0 p1 HST HTK
        obtain ⟨ao, c, k0, k1, hown, hbel, _⟩ := HR.out
        rw [HLK.out] at k1 hown
        have HK0 := Lib.hid k0
        have HK1 := Lib.hid k1
        have HO := Lib.hid hown
        clear hown hbel
        have c0 := cell_of_row _ _ 0 _ _ _ k0
        have c1 := cell_of_row _ _ 1 _ _ _ k0
        have d0 := cell_of_row _ _ 0 _ _ _ k1
        have d1 := cell_of_row _ _ 1 _ _ _ k1
        have z1 := frz2 k1 1
        have hn1 : w.heap.size + 1 ≠ wr.heap.size := by omega
        have hl1 : w.heap.size + 1 < wr.heap.size := by omega
        have hl0 : w.heap.size < wr.heap.size := by omega
        clear k0 k1 HR
        revert HST
        generalize (each || anyL ((tl ts).take j) x.data.toList) = q
        intro HST
        have HD : Hid (∃ W2, W2 = (wr.alloc (.cells #[.bool bj, .string y] 23)).alloc (.cells #[.bool bj, .string y] 28) ∧ W2.heap[wr.heap.size + 1]? = some (.cells #[.bool bj, .string y] 28 (0, 0)) ∧ W2.heap[wr.heap.size]? = some (.cells #[.bool bj, .string y] 23 (0, 0)) ∧ Below wr.heap.size wr W2 ∧ W2.heap.size = wr.heap.size + 2) := by
          refine ⟨_, rfl, ?_, ?_, ((Below.refl _ _).alloc (Nat.le_refl _) _).alloc (by simp) _, by simp⟩
          · have := heap_alloc_new (wr.alloc (.cells #[.bool bj, .string y] 23)) (.cells #[.bool bj, .string y] 28)
            simpa using this
          · have hb := (Below.refl (wr.heap.size + 1) (wr.alloc (.cells #[.bool bj, .string y] 23))).alloc (by simp) (.cells #[.bool bj, .string y] 28)
            exact (hb.block _ (by omega)).trans (heap_alloc_new wr _)
        obtain ⟨W2, hW2, hk3, hk4, hbW, hzW⟩ := HD.out
        have HK3 := Lib.hid hk3
        have HK4 := Lib.hid hk4
        have HBW := Lib.hid hbW
        have HZW := Lib.hid hzW
        have HOW := Lib.hid (HO.out.go hbW)
        have HW2 := Lib.hid hW2
        clear HD hk3 hk4 hbW hW2 hzW
        go_wp2_with (at_builtin; rw [← HW2.out]; refine wpList_append_own _ rfl _ _ 37 rfl (w.heap.size + 2) 28 i0 _ 2 24 Tryd.underlying37 hi hz0 hz1 hz2 rfl (by decide) _ _ _ rfl HOW.out ⟨wr.heap.size + 1, 0, none⟩ 1 1 [.bool bj, .string y] rfl rfl ?c1 ?c2 ?c3 ?c4 ?c5 ?_)
        case c1 =>
          intro i v hv
          have hj5 : i < 2 := by
            rcases Nat.lt_or_ge i 2 with h | h
            · exact h
            · rw [List.getElem?_eq_none (by show 2 ≤ i; exact h)] at hv; cases hv
          have ea : (⟨wr.heap.size + 1, 0, none⟩ : Addr).add i = ⟨wr.heap.size + 1, i, none⟩ := by unfold Addr.add; split <;> simp_all
          rw [ea, cell_of_row _ _ i _ _ _ HK3.out]
          match i, hj5 with
          | 0, _ => exact hv
          | 1, _ => exact hv
        case c2 => intro v hv; simp at hv; rcases hv with rfl | rfl <;> rfl
        case c3 => rw [HLK.out]; unfold maxLen; omega
        case c4 => rw [HLK.out]; omega
        case c5 => rw [HZW.out]; omega
        intro v' w5 hown' hgrow _
        have HF : Hid (w5.heap[w.heap.size]? = some (.cells #[.bool b, .string x] 23 (0, 0)) ∧ w5.heap[w.heap.size + 1]? = some (.cells #[.bool each, .slice ao j c] 39 (0, 0)) ∧ w5.heap[wr.heap.size]? = some (.cells #[.bool bj, .string y] 23 (0, 0)) ∧ Below w.heap.size w w5 ∧ wr.heap.size + 2 ≤ w5.heap.size) := by
          have hz := HZW.out
          have hl : ∀ k, (Value.slice ao j c).ownBlock = some k → w.heap.size + 2 ≤ k ∧ k < wr.heap.size := fun k hk => HO.out.lt k hk
          refine ⟨?_, ?_, ?_, ?_, by rw [← hz]; exact hgrow.size⟩
          · rw [hgrow.block _ (by rw [hz]; omega) (fun e => by have := hl _ e.symm; omega), HBW.out.block _ (by omega)]; exact HK0.out
          · rw [hgrow.block _ (by rw [hz]; omega) (fun e => by have := hl _ e.symm; omega), HBW.out.block _ (by omega)]; exact HK1.out
          · rw [hgrow.block _ (by rw [hz]; omega) (fun e => by have := hl _ e.symm; omega)]; exact HK4.out
          · have hb := HBR.out.trans (HBW.out.mono HBR.out.size)
            exact hb.grown hgrow hb.size (fun k hk => by have := hl k hk; omega)
        have HO5 : Hid (OwT 28 (w.heap.size + 2) v' ((tl ts).take (j + 1)) w5) := by
          show OwT 28 (w.heap.size + 2) v' ((tl ts).take (j + 1)) w5
          rw [HTK.out]
          unfold OwT
          rw [tgC_snoc, List.length_append]
          rw [← mkS_of rfl, List.length_take]
          exact hown'
        clear hown' hgrow HO HOW HBW HK3 HK4 HW2 HZW c0 c1 d0 d1 z1 HK0 HK1 p0 p1
        have HLK1 : Hid (((tl ts).take (j + 1)).length = j + 1) := by
          show ((tl ts).take (j + 1)).length = j + 1
          rw [List.length_take, tl_len]; omega
        obtain ⟨ao5, cap5, hv5⟩ := own_len HO5.out
        rw [HLK1.out] at hv5
        subst hv5
        have e0 := cell_of_row _ _ 0 _ _ _ HF.out.2.2.1
        have e1 := cell_of_row _ _ 1 _ _ _ HF.out.2.2.1
        have s0 := cell_of_row _ _ 0 _ _ _ HF.out.1
        have s1 := cell_of_row _ _ 1 _ _ _ HF.out.1
        have m0 := cell_of_row _ _ 0 _ _ _ HF.out.2.1
        have m1 := cell_of_row _ _ 1 _ _ _ HF.out.2.1
        have zz := frz2 HF.out.2.1 1
        have hn2 : wr.heap.size ≠ w.heap.size + 1 := by omega
        have hn3 : w.heap.size ≠ w.heap.size + 1 := by omega
        have HR6 : Hid (HsR w b each x ((tl ts).take (j + 1)) (w5.setCell ⟨w.heap.size + 1, 1, none⟩ (.slice ao5 (j + 1) cap5))) := by
          obtain ⟨f0, f1, _, f3, f4⟩ := HF.out
          refine ⟨ao5, cap5, ?_, ?_, ?_, ?_, ?_⟩
          · have : (w5.setCell ⟨w.heap.size + 1, 1, none⟩ (.slice ao5 (j + 1) cap5)).heap[w.heap.size]? = w5.heap[w.heap.size]? := by
              have hne2 : ¬ w.heap.size + 1 = w.heap.size := by omega
              simp [World.setCell, Array.getElem?_modify, hne2]
            rw [this]; exact f0
          · rw [HLK1.out]; exact blk_set f1 1 _
          · rw [HLK1.out]; exact HO5.out.set (p := ⟨w.heap.size + 1, 1, none⟩) (Nat.lt_succ_self _) _
          · exact f3.setCell (p := ⟨w.heap.size + 1, 1, none⟩) (Nat.le_succ _) _
          · have : (w5.setCell ⟨w.heap.size + 1, 1, none⟩ (.slice ao5 (j + 1) cap5)).heap.size = w5.heap.size := by simp [World.setCell]
            rw [this]; omega
        clear HF HO5 HLK1 HLK
        have HEQ : Hid ((y.toList == x.toList) = decide (y.data.toList = x.data.toList)) := by
          show (y.toList == x.toList) = _
          rw [Lib.toList_data, Lib.toList_data]
          exact beq_dec _ _
        have HVV : Hid (∀ r, r = (q || (decide (bj = false) && decide (y.data.toList = x.data.toList))) → Value.bool r = .bool (each || anyL ((tl ts).take (j + 1)) x.data.toList)) := fun r hr => by rw [HST.out, hr]
        clear HST HTK
        have hqq : (y.toList == x.toList) = decide (y.data.toList = x.data.toList) := HEQ.out
        clear HEQ
        revert hqq HVV
        generalize decide (y.data.toList = x.data.toList) = r
        intro HVV hqq
        cases q <;> cases bj <;> cases r
        all_goals
          go_wp2
          go_roundw
          case rel => exact ⟨j + 1, by omega, by omega, by go_num, HVV.out _ rfl, HR6.out⟩
          case measure => simp [intOf]; omega
      · obtain rfl : j = 8 := by omega
        have h8' : ¬ (8 : Int) < 8 := by omega
        have hlk : ((tl ts).take 8).length = 8 := by rw [List.length_take, tl_len]; omega
        revert p0 p1
        generalize ts[8].2 = y
        generalize ts[8].1 = bj
        intro p0 p1
        have HRW : Hid (HsR w b each x ((tl ts).take 8) (wr.alloc (.cells #[.bool bj, .string y] 23))) := HR.out.go ((Below.refl _ _).alloc (Nat.le_refl _) _)
        have hz9 : w.heap.size + 2 ≤ (wr.alloc (.cells #[.bool bj, .string y] 23)).heap.size := by rw [World.size_alloc]; omega
        obtain ⟨ao, c, k0, k1, hown, hbel, hsz2⟩ := HRW.out
        rw [hlk] at k1 hown
        have HO := Lib.hid hown
        have HTW : Hid (Nu.Tabs (wr.alloc (.cells #[.bool bj, .string y] 23))) := HT.out.below hbel (Nat.le_refl _)
        have HBW := Lib.hid hbel
        have c0 := cell_of_row _ _ 0 _ _ _ k0
        have c1 := cell_of_row _ _ 1 _ _ _ k0
        have d0 := cell_of_row _ _ 0 _ _ _ k1
        have d1 := cell_of_row _ _ 1 _ _ _ k1
        have HH := Lib.hid (fun V h => Has_c each (.slice ao 8 c) ((tl ts).take 8) b x (w.heap.size + 2) V h (by rw [hlk]; omega))
        unfold hasL at HH
        clear hown hbel k0 k1 hlk HRW
        revert HH
        generalize (each || anyL ((tl ts).take 8) x.data.toList) = q
        intro HH
        have HWE : Hid (∃ V, V = wr.alloc (.cells #[.bool bj, .string y] 23)) := ⟨_, rfl⟩
        cases b <;> cases q
        all_goals
          go_wp2_with fail
          refine (HH.out _ HO.out).mono ?_
          rintro e w7 ⟨rfl, hb7⟩
          have e0 := (hb7.cell (p := ⟨w.heap.size, 0, none⟩) (by show w.heap.size < _; omega)).trans c0
          have HT7 := Lib.hid (HTW.out.go hb7)
          have HB7 : Hid (Below w.heap.size w w7) := HBW.out.trans (hb7.mono HBW.out.size)
          clear hb7
          go_wp2_with fail
          refine (awake_c _ HT7.out).mono ?_
          rintro e w9 ⟨rfl, hb9⟩
          have HB9 := Lib.hid hb9
          clear hb9
          go_wp2
          go_ret
          exact ⟨rfl, HB7.out.trans (HB9.out.mono HB7.out.size)⟩
    · have hlk : ((tl ts).take j).length = j := by rw [List.length_take, tl_len]; omega
      have HRW := HR
      obtain ⟨ao, c, k0, k1, hown, hbel, hsz2⟩ := HRW.out
      rw [hlk] at k1 hown
      have HO := Lib.hid hown
      have HTW : Hid (Nu.Tabs wr) := HT.out.below hbel (Nat.le_refl _)
      have HBW := Lib.hid hbel
      have c0 := cell_of_row _ _ 0 _ _ _ k0
      have c1 := cell_of_row _ _ 1 _ _ _ k0
      have d0 := cell_of_row _ _ 0 _ _ _ k1
      have d1 := cell_of_row _ _ 1 _ _ _ k1
      have HH := Lib.hid (fun V h => Has_c each (.slice ao j c) ((tl ts).take j) b x (w.heap.size + 2) V h (by rw [hlk]; omega))
      unfold hasL at HH
      clear hown hbel k0 k1 hlk HRW
      revert HH
      generalize (each || anyL ((tl ts).take j) x.data.toList) = q
      intro HH
      cases b <;> cases q
      all_goals
        go_wp2_with fail
        refine (HH.out _ HO.out).mono ?_
        rintro e w7 ⟨rfl, hb7⟩
        have e0 := (hb7.cell (p := ⟨w.heap.size, 0, none⟩) (by show w.heap.size < _; omega)).trans c0
        have HT7 := Lib.hid (HTW.out.go hb7)
        have HB7 : Hid (Below w.heap.size w w7) := HBW.out.trans (hb7.mono HBW.out.size)
        clear hb7
        go_wp2_with fail
        refine (awake_c _ HT7.out).mono ?_
        rintro e w9 ⟨rfl, hb9⟩
        have HB9 := Lib.hid hb9
        clear hb9
        go_wp2
        go_ret
        exact ⟨rfl, HB7.out.trans (HB9.out.mono HB7.out.size)⟩

set_option maxRecDepth 100000 in
theorem lifted (os : Os) (started : os.Started) (H : Type) (enc : TypeId × Value → H) :
    ReturnsInHanded {} Tryd.checked os 5 .any (fun w args => (Rows.etagHasSpec.pre enc Tryd.prog Tryd.f5 [] false w args ∧ laidMetH Tryd.prog [("math/bits.deBruijn32tab", Rows.laid_math_bits_deBruijn32tab), ("math/bits.deBruijn64tab", Rows.laid_math_bits_deBruijn64tab), ("internal/strconv.uint64pow10", Rows.laid_internal_strconv_uint64pow10)] w) ∧ sizedMet enc Tryd.prog Tryd.f5 (OpenSpec.ofChange Rows.etagHasSpec) false w args)
      (Rows.etagHasSpec.post enc Tryd.prog Tryd.f5 false true false false) := by
  refine returnsInHanded_of_change_and (C := Tryd.checked) (X := fun w _ => laidMetH Tryd.prog [("math/bits.deBruijn32tab", Rows.laid_math_bits_deBruijn32tab), ("math/bits.deBruijn64tab", Rows.laid_math_bits_deBruijn64tab), ("internal/strconv.uint64pow10", Rows.laid_internal_strconv_uint64pow10)] w) (fun _ _ _ hh h => h.of_heap hh) own started (by kernel_rfl) Tryd.func5
    (ChangeSpec.witness_shaped (enc := enc) (C := Tryd.checked) (os := os) (X := fun w _ => laidMetH Tryd.prog [("math/bits.deBruijn32tab", Rows.laid_math_bits_deBruijn32tab), ("math/bits.deBruijn64tab", Rows.laid_math_bits_deBruijn64tab), ("internal/strconv.uint64pow10", Rows.laid_internal_strconv_uint64pow10)] w) false (World.doorLaid Tryd.prog 400 os) #[.slice none 0 0, .bool false, .agg #[.bool false, .string ByteArray.empty]] 8 rfl (World.shaped_of_RefB (by kernel_rfl) (by kernel_rfl)) (by kernel_rfl) (by kernel_rfl) (by kernel_rfl) (Nu.door_met os _)) ?_
  intro W base args ds gs before hval0 hW _ _ hL _
  have hval : ∀ (j : Nat) t v, Tryd.f5.params[j]? = some t → args[j]? = some v → Value.okWide Tryd.prog W .any base t v := hval0
  have hW' := hW
  obtain ⟨p, q, hA0, hV, rfl, hfz, hnd⟩ := hW
  have hA : DataW.TrodAll enc Tryd.prog W 0 (fun _ => true) true Tryd.f5.params.toList args.toList ds p := hA0
  rw [Tryd.params5] at hA hval
  obtain ⟨v0, vs0, d0, ds0, p0, q0, hargs, rfl, rfl, h0, r0⟩ := trodAll_cons hA
  obtain ⟨v1, vs1, d1, ds1, p1, q1, rfl, rfl, rfl, h1, r1⟩ := trodAll_cons r0
  obtain ⟨v2, vs2, d2, ds2, p2, q2, rfl, rfl, rfl, h2, r2⟩ := trodAll_cons r1
  obtain ⟨rfl, rfl, rfl⟩ := trodAll_nil r2
  obtain rfl : args = #[v0, v1, v2] := by cases args; simp_all
  obtain ⟨rfl, rfl⟩ := trodVars_none hV
  have k0 := h0
  have lt0 : ∀ x ∈ p0, x.block < W.heap.size := by obtain ⟨m, hm⟩ := k0; exact DataW.trod_lt m _ _ _ hm
  obtain ⟨a0, len0, cap0, rfl⟩ := okWide_slice Tryd.underlying42 (hval 0 42 v0 rfl rfl)
  obtain ⟨z0, w0⟩ := tags_of h0
  obtain ⟨a1, rfl, rfl, rfl⟩ := open_bool Tryd.underlying4 (hval 1 4 v1 rfl rfl) h1
  have k2 := h2
  have lt2 : ∀ x ∈ p2, x.block < W.heap.size := by obtain ⟨m, hm⟩ := k2; exact DataW.trod_lt m _ _ _ hm
  obtain ⟨u2a, u2b, y2a, y2b, n2, rfl, _, _, hf2a, hf2b⟩ := Joins.open_agg2 Tryd.underlying23 (by kernel_rfl) (by kernel_rfl) (hval 2 23 v2 rfl rfl) h2
  obtain ⟨b2, e2a, _⟩ := DataW.trod_bool Tryd.underlying4 hf2a
  obtain ⟨x2, e2b, _, w2⟩ := DataW.trod_string Tryd.underlying9 hf2b
  obtain rfl : u2a = .bool b2 := by simpa using e2a
  obtain rfl : u2b = .string x2 := by simpa using e2b
  clear hA0 hval0
  have hT := Nu.of_laid hL
  refine (walk a0 len0 cap0 z0 W w0 a1 b2 x2 w2 hT).mono fun e W' ⟨he, bel⟩ => ?_
  subst he
  exact ⟨_, rfl, _, _, _, [], _, [], hW', trodAll_mk1 (shut_bool Tryd.underlying4 _), (trodAll_cons_mk (Below.trod laidOut (by kernel_rfl) (of_decide_eq_true (by kernel_rfl)) k0 bel lt0) (trodAll_cons_mk (shut_bool Tryd.underlying4 a1) (trodAll_cons_mk (Below.trod laidOut (by kernel_rfl) (of_decide_eq_true (by kernel_rfl)) k2 bel lt2) trodAll_mk0))), rfl, bel.frame _, fun h => by cases h⟩

theorem over : Rows.EtagHasSaid :=
  OpenClaim.holds_of_wide 5 Tryd.f5 rfl rfl rfl rfl rfl rfl rfl ⟨rfl, rfl, rfl, rfl, rfl⟩ rfl rfl rfl rfl rfl (by kernel_rfl) Tryd.func5 (by kernel_rfl)
    (of_decide_eq_true (by kernel_rfl)) (by unfold Func.isWrapper; first | (rw [if_pos (by decide +kernel)]; kernel_rfl) | (rw [if_neg (by decide +kernel)]; exact ⟨rfl, rfl⟩))
    (fun os started H enc _ => lifted os started H enc)
end Go.Proofs.YtojmjdgapfcjfaaDoor.etagHas
namespace Go.Proofs.YtojmjdgapfcjfaaDoor
theorem etagHas_card : Rows.EtagHasCardSaid :=
  Claim7.holds_tied_plain_at .later [] [.data, .data, .data] true (true, "914a9bb9b9637a45452587cbd278f72a662e2d63687d4ca143f048852a48901a") false
    etagHas.over (fun _ h => by cases h) (by kernel_rfl) (fun _ h => by cases h) etagHas_row_tie rfl ⟨rfl, rfl⟩ (by kernel_rfl) rfl
    (fun f fn hf hfn => by
      obtain rfl : f = 5 := Option.some.inj ((show Tryd.prog.funcNamed Tryd.f5.name = some 5 by kernel_rfl).symm.trans hf) |>.symm
      obtain rfl : fn = Tryd.f5 := (Option.some.inj (Tryd.func5.symm.trans hfn)).symm
      exact ⟨by kernel_rfl, fun j t ht => by
        rw [Tryd.params5] at ht
        have hm : t ∈ [42, 4, 23] := by simpa using Array.mem_of_getElem? ht
        have hall : ([42, 4, 23].all fun u => !Tryd.prog.wantsStandIn u) = true := by kernel_rfl
        exact (show Tryd.prog.wantsStandIn t = false by simpa using List.all_eq_true.1 hall t hm)⟩)
    (by kernel_rfl)
#print axioms etagHas_card
end Go.Proofs.YtojmjdgapfcjfaaDoor
