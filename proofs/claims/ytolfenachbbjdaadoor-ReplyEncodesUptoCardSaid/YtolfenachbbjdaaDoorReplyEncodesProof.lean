/-
  ReplyEncodes (P13.1): for every reply (its first six fields, the first two hundred bytes of its body), package reply's Encode answers the bytes that the document's own answer says, or ErrForm where the reply is not right; chapter 13's example comes out. Conditions: what is read is of bulk at most 1048576 (the second form), and the listed variables of the library lie as the program's text lays them (tied card).
-/
import Derived.Test.YtolfenachbbjdaaDoorCards
import Derived.Test.YtolfenachbbjdaaDoorTie
import Derived.Test.YtolfenachbbjdaaDoorNuLaid
import Derived.Test.YtolfenachbbjdaaDoorRpJ
import Derived.ShutString
import Derived.ChangeOld
import Derived.SevenTiedAt
import Derived.Lib.SmallJoins
import Derived.Deep.DeepHandedRow
import Derived.Lib.LaidTab
namespace Go.Proofs.YtolfenachbbjdaaDoor.replyEncodes
open Go.ChangeShapes Go.WideShapes Go.ChangeAt Go.RowKit
open Go.ChangeMaps (open_string shut_string)
open Go.Proofs.YtolfenachbbjdaaDoor.Ch
open Go.Proofs.YtolfenachbbjdaaDoor.Hd
open Go.Proofs.YtolfenachbbjdaaDoor.Rp
set_option linter.unusedVariables false
set_option linter.unusedSimpArgs false

theorem own : ownKnob Tryd.prog.godebug = none := by kernel_rfl
theorem laidOut : laidOutB Tryd.prog = true := by kernel_rfl

set_option maxRecDepth 100000 in
set_option maxHeartbeats 4000000 in
theorem walkN (n : Int) (ao aq : Option Addr) (cap cq : Nat) (fs fz : List FB) (body bz E : ByteArray) (q : Bool) (w : World) (HT : Hid (Nu.Tabs w)) (HR : Hid (RdF (.slice aq fz.length cq) fz w))
    (HCUT : Hid (∀ W, Calls Tryd.prog 8 #[.agg #[.int .i64 n, .slice ao fs.length cap, .string body]] W fun e w' => e = .returned (.agg #[.int .i64 n, .slice aq fz.length cq, .string bz]) ∧ Below W.heap.size W w'))
    (HOUR : Hid (∀ W, RdF (.slice aq fz.length cq) fz W → Calls Tryd.prog 10 #[.agg #[.int .i64 n, .slice aq fz.length cq, .string bz]] W fun e w' => ∃ au cu, e = .returned (.agg #[.int .i64 n, .slice au fz.length cu, .string bz]) ∧ RdF (.slice au fz.length cu) fz w' ∧ Below W.heap.size W w'))
    (HENC : Hid (∀ au cu W, RdF (.slice au fz.length cu) fz W → Nu.Tabs W → Calls Tryd.prog 9 #[.agg #[.int .i64 n, .slice au fz.length cu, .string bz]] W fun e w' => e = .returned (.tuple #[.string ⟨#[]⟩, .int .i64 3]) ∧ Below W.heap.size W w'))
    (HRT : Hid (∀ W, RdF (.slice aq fz.length cq) fz W → Calls Tryd.prog 11 #[.agg #[.int .i64 n, .slice aq fz.length cq, .string bz]] W fun e w' => e = .returned (.bool false) ∧ Below W.heap.size W w'))
    (HER : Hid (∀ W, RdF (.slice aq fz.length cq) fz W → Calls Tryd.prog 13 #[.agg #[.int .i64 n, .slice aq fz.length cq, .string bz]] W fun e w' => e = .returned (.string E) ∧ Below W.heap.size W w')) :
    Calls Tryd.prog 3 #[.agg #[.int .i64 n, .slice ao fs.length cap, .string body]] w fun e w' => e = .returned (.bool true) ∧ Below w.heap.size w w' := by
  go_enter Tryd.func3, Tryd.ntmps3
  go_wp2_with fail
  refine (HCUT.out _).mono ?_
  rintro e w1 ⟨rfl, hb1⟩
  obtain ⟨hk1, hl1, hB1⟩ := in3 hb1
  obtain ⟨c0, c1, c2⟩ := cells3 hk1
  have z0 := frz2 hk1 0
  have z1 := frz2 hk1 1
  have z2 := frz2 hk1 2
  obtain ⟨W2, hW2, HK2⟩ : ∃ W2, W2 = ((w1.setCell ⟨w.heap.size, 0, none⟩ (.int .i64 n)).setCell ⟨w.heap.size, 1, none⟩ (.slice aq fz.length cq)).setCell ⟨w.heap.size, 2, none⟩ (.string bz) ∧ Hid (EQ w n (.slice aq fz.length cq) bz W2) :=
    ⟨_, rfl, ((hB1.setCell (p := ⟨w.heap.size, 0, none⟩) (Nat.le_refl _) _).setCell (p := ⟨w.heap.size, 1, none⟩) (Nat.le_refl _) _).setCell (p := ⟨w.heap.size, 2, none⟩) (Nat.le_refl _) _, st3 hk1 _ _ _⟩
  have HWE := Lib.hid hW2
  obtain ⟨d0, d1, d2⟩ := cells3 HK2.out.2
  rw [hW2] at d0 d1 d2
  clear hb1 hk1 hB1 hW2
  go_wp2_with fail
  rw [← HWE.out] at d0 d1 d2 ⊢
  clear HWE c0 c1 c2 z0 z1 z2
  refine (HOUR.out _ (HR.out.go HK2.out.1)).mono ?_
  rintro e w3 ⟨au, cu, rfl, hr3, hb3⟩
  have HR3 := Lib.hid hr3
  have HK3 := Lib.hid (HK2.out.go hb3)
  clear hr3 hb3 d0 d1 d2
  go_wp2_with fail
  refine (HENC.out _ _ _ HR3.out (HT.out.go HK3.out.1)).mono ?_
  rintro e w4 ⟨rfl, hb4⟩
  have HK4 := Lib.hid (HK3.out.go hb4)
  clear hb4
  obtain ⟨d0, d1, d2⟩ := cells3 HK4.out.2
  go_wp2_with fail
  refine (HRT.out _ (HR.out.go HK4.out.1)).mono ?_
  rintro e w5 ⟨rfl, hb5⟩
  have HK5 := Lib.hid (HK4.out.go hb5)
  clear hb5 d0 d1 d2
  obtain ⟨d0, d1, d2⟩ := cells3 HK5.out.2
  go_wp2_with fail
  refine (awake_c _ (HT.out.go HK5.out.1)).mono ?_
  rintro e w9 ⟨rfl, hb9⟩
  have HK9 := Lib.hid (HK5.out.go hb9)
  clear hb9
  go_wp2
  go_ret
  exact ⟨rfl, HK9.out.1⟩
set_option maxRecDepth 100000 in
set_option maxHeartbeats 4000000 in
theorem walkY (n : Int) (ao aq : Option Addr) (cap cq : Nat) (fs fz : List FB) (body bz E : ByteArray) (q : Bool) (w : World) (HT : Hid (Nu.Tabs w)) (HR : Hid (RdF (.slice aq fz.length cq) fz w))
    (HCUT : Hid (∀ W, Calls Tryd.prog 8 #[.agg #[.int .i64 n, .slice ao fs.length cap, .string body]] W fun e w' => e = .returned (.agg #[.int .i64 n, .slice aq fz.length cq, .string bz]) ∧ Below W.heap.size W w'))
    (HOUR : Hid (∀ W, RdF (.slice aq fz.length cq) fz W → Calls Tryd.prog 10 #[.agg #[.int .i64 n, .slice aq fz.length cq, .string bz]] W fun e w' => ∃ au cu, e = .returned (.agg #[.int .i64 n, .slice au fz.length cu, .string bz]) ∧ RdF (.slice au fz.length cu) fz w' ∧ Below W.heap.size W w'))
    (HENC : Hid (∀ au cu W, RdF (.slice au fz.length cu) fz W → Nu.Tabs W → Calls Tryd.prog 9 #[.agg #[.int .i64 n, .slice au fz.length cu, .string bz]] W fun e w' => e = .returned (.tuple #[.string E, .int .i64 0]) ∧ Below W.heap.size W w'))
    (HRT : Hid (∀ W, RdF (.slice aq fz.length cq) fz W → Calls Tryd.prog 11 #[.agg #[.int .i64 n, .slice aq fz.length cq, .string bz]] W fun e w' => e = .returned (.bool true) ∧ Below W.heap.size W w'))
    (HER : Hid (∀ W, RdF (.slice aq fz.length cq) fz W → Calls Tryd.prog 13 #[.agg #[.int .i64 n, .slice aq fz.length cq, .string bz]] W fun e w' => e = .returned (.string E) ∧ Below W.heap.size W w')) :
    Calls Tryd.prog 3 #[.agg #[.int .i64 n, .slice ao fs.length cap, .string body]] w fun e w' => e = .returned (.bool true) ∧ Below w.heap.size w w' := by
  go_enter Tryd.func3, Tryd.ntmps3
  go_wp2_with fail
  refine (HCUT.out _).mono ?_
  rintro e w1 ⟨rfl, hb1⟩
  obtain ⟨hk1, hl1, hB1⟩ := in3 hb1
  obtain ⟨c0, c1, c2⟩ := cells3 hk1
  have z0 := frz2 hk1 0
  have z1 := frz2 hk1 1
  have z2 := frz2 hk1 2
  obtain ⟨W2, hW2, HK2⟩ : ∃ W2, W2 = ((w1.setCell ⟨w.heap.size, 0, none⟩ (.int .i64 n)).setCell ⟨w.heap.size, 1, none⟩ (.slice aq fz.length cq)).setCell ⟨w.heap.size, 2, none⟩ (.string bz) ∧ Hid (EQ w n (.slice aq fz.length cq) bz W2) :=
    ⟨_, rfl, ((hB1.setCell (p := ⟨w.heap.size, 0, none⟩) (Nat.le_refl _) _).setCell (p := ⟨w.heap.size, 1, none⟩) (Nat.le_refl _) _).setCell (p := ⟨w.heap.size, 2, none⟩) (Nat.le_refl _) _, st3 hk1 _ _ _⟩
  have HWE := Lib.hid hW2
  obtain ⟨d0, d1, d2⟩ := cells3 HK2.out.2
  rw [hW2] at d0 d1 d2
  clear hb1 hk1 hB1 hW2
  go_wp2_with fail
  rw [← HWE.out] at d0 d1 d2 ⊢
  clear HWE c0 c1 c2 z0 z1 z2
  refine (HOUR.out _ (HR.out.go HK2.out.1)).mono ?_
  rintro e w3 ⟨au, cu, rfl, hr3, hb3⟩
  have HR3 := Lib.hid hr3
  have HK3 := Lib.hid (HK2.out.go hb3)
  clear hr3 hb3 d0 d1 d2
  go_wp2_with fail
  refine (HENC.out _ _ _ HR3.out (HT.out.go HK3.out.1)).mono ?_
  rintro e w4 ⟨rfl, hb4⟩
  have HK4 := Lib.hid (HK3.out.go hb4)
  clear hb4
  obtain ⟨d0, d1, d2⟩ := cells3 HK4.out.2
  go_wp2_with fail
  refine (HRT.out _ (HR.out.go HK4.out.1)).mono ?_
  rintro e w5 ⟨rfl, hb5⟩
  have HK5 := Lib.hid (HK4.out.go hb5)
  clear hb5 d0 d1 d2
  obtain ⟨d0, d1, d2⟩ := cells3 HK5.out.2
  go_wp2_with fail
  refine (HER.out _ (HR.out.go HK5.out.1)).mono ?_
  rintro e w6 ⟨rfl, hb6⟩
  have HK6 := Lib.hid (HK5.out.go hb6)
  clear hb6 d0 d1 d2
  go_wp2_with fail
  refine (awake_c _ (HT.out.go HK6.out.1)).mono ?_
  rintro e w9 ⟨rfl, hb9⟩
  have HK9 := Lib.hid (HK6.out.go hb9)
  clear hb9
  go_wp2
  go_ret
  exact ⟨rfl, HK9.out.1⟩
theorem flat_bd : ∀ (fs : List FB), (∀ f ∈ fs, f.1.size + f.2.size ≤ 1048576) → (fs.flatMap fldB).length ≤ fs.length * 1048580
  | [], _ => by simp
  | x :: r, h => by
    have ih := flat_bd r (fun f hf => h f (List.mem_cons_of_mem _ hf))
    have hx := h x (List.mem_cons_self ..)
    have hl := fld_len x
    rw [List.flatMap_cons, List.length_append, List.length_cons]
    omega
theorem walk (n : Int) (wn : (Lit.int .i64 n).wf = true) (ao : Option Addr) (cap : Nat) (fs : List FB) (body : ByteArray) (w0 : body.size ≤ maxLen) (w : World) (hR : RdF (.slice ao fs.length cap) fs w) (hc : fs.length ≤ cap) (hm : cap ≤ maxLen) (hs : ∀ f ∈ fs, f.1.size + f.2.size ≤ 1048576) (hT : Nu.Tabs w) :
    Calls Tryd.prog 3 #[.agg #[.int .i64 n, .slice ao fs.length cap, .string body]] w fun e w' => e = .returned (.bool true) ∧ Below w.heap.size w w' := by
  unfold maxLen at w0 hm
  obtain ⟨hn0, hn1⟩ := bounds_i64 wn
  obtain ⟨aq, cq, hq, hcut⟩ := cut_c n ao cap fs body w hR hc hm w0
  have hs6 : ∀ f ∈ fs.take 6, f.1.size + f.2.size ≤ 1048576 := fun f hf => hs f (List.mem_of_mem_take hf)
  have hsm : ∀ f ∈ fs.take 6, smallF f := fun f hf => by have := hs6 f hf; exact ⟨by omega, by omega⟩
  have hl6 : (fs.take 6).length ≤ 6 := by rw [List.length_take]; omega
  have hfl : ((fs.take 6).flatMap fldB).length ≤ 40000000 := by have := flat_bd _ hs6; omega
  have hb : (mkS (body.data.toList.take 200)).size ≤ 2000000 := by rw [size_mkS, List.length_take]; omega
  have HO := fun W (h : RdF (.slice aq (fs.take 6).length cq) (fs.take 6) W) => (Ours_c n _ (fs.take 6) (mkS (body.data.toList.take 200)) W h (by omega)).mono (R' := fun e w' => ∃ au cu, e = .returned (.agg #[.int .i64 n, .slice au (fs.take 6).length cu, .string (mkS (body.data.toList.take 200))]) ∧ RdF (.slice au (fs.take 6).length cu) (fs.take 6) w' ∧ Below W.heap.size W w') fun e w' hh => by
    obtain ⟨au, cu, he, ho, hb⟩ := hh
    exact ⟨au, cu, he, ho.rd, hb⟩
  have HE := fun au cu W (h : RdF (.slice au (fs.take 6).length cu) (fs.take 6) W) (ht : Nu.Tabs W) => Encode_c n _ (fs.take 6) (mkS (body.data.toList.take 200)) W hn0 hn1 h hsm ht hb (by omega) hfl
  have HRT := fun W (h : RdF (.slice aq (fs.take 6).length cq) (fs.take 6) W) => RightR_c n _ (fs.take 6) (mkS (body.data.toList.take 200)) W h (by omega) hsm
  have HER := fun W (h : RdF (.slice aq (fs.take 6).length cq) (fs.take 6) W) => EncodeR_c n _ (fs.take 6) (mkS (body.data.toList.take 200)) W hn0 hn1 h hsm hb (by omega) hfl
  cases hqq : rightB n (fs.take 6) (mkS (body.data.toList.take 200)) with
  | false =>
    simp only [hqq] at HE HRT
    exact walkN n ao aq cap cq fs (fs.take 6) body _ _ false w (Lib.hid hT) (Lib.hid hq) (Lib.hid hcut) (Lib.hid HO) (Lib.hid HE) (Lib.hid HRT) (Lib.hid HER)
  | true =>
    simp only [hqq] at HE HRT
    exact walkY n ao aq cap cq fs (fs.take 6) body _ _ true w (Lib.hid hT) (Lib.hid hq) (Lib.hid hcut) (Lib.hid HO) (Lib.hid HE) (Lib.hid HRT) (Lib.hid HER)

theorem laid_met (os : Os) (args : Array Value) : laidMet Tryd.prog Rows.replyEncodesUptoRow.laid ((World.doorLaid Tryd.prog 400 os).forCall (fun _ _ => 0) ⟨#[], args, []⟩).memory :=
  laidMet_of_run' 8 (by kernel_rfl) (by kernel_rfl)
theorem reads (os : Os) {H : Type} (enc : TypeId × Value → H) : ∃ places, DataW.whole enc Tryd.prog ((World.doorLaid Tryd.prog 400 os).forCall (fun _ _ => 0) ⟨#[], #[.agg #[.int .i64 0, .slice none 0 0, .string ByteArray.empty]], []⟩).memory Tryd.f3.params.toList Rows.replyEncodesSpec.vars false (#[.agg #[.int .i64 0, .slice none 0 0, .string ByteArray.empty]] : Array Value).toList 8 = some ([.agg [.lit (.int .i64 0), .nil, .lit (.string [])]], [], places) :=
  ⟨[], by kernel_rfl⟩
set_option maxRecDepth 100000 in
theorem lifted (os : Os) (started : os.Started) (H : Type) (enc : TypeId × Value → H) (Fi : Stop.Interp) :
    ReturnsInHanded {} Tryd.checked os 3 .any ((Rows.OpenSpec.upto Rows.replyEncodesSpec).preRow enc Tryd.prog Tryd.f3 Rows.replyEncodesUptoRow.domain false Rows.replyEncodesUptoRow.laid) (((Rows.OpenSpec.upto Rows.replyEncodesSpec).at Fi).post enc Tryd.prog Tryd.f3 false true false false) := by
  obtain ⟨places, hx⟩ := reads os enc
  refine returnsInHanded_of_row (C := Tryd.checked) (s := Rows.OpenSpec.upto Rows.replyEncodesSpec) own started (by kernel_rfl) Tryd.func3
    (witness_row_at (enc := enc) (C := Tryd.checked) false (World.doorLaid Tryd.prog 400 os) #[.agg #[.int .i64 0, .slice none 0 0, .string ByteArray.empty]] rfl (by kernel_rfl) (by kernel_rfl) (by kernel_rfl)
      (OpenSpec.preRow_of_cond 8 hx (by kernel_rfl) (fun k hk => by cases hk; kernel_rfl) (by kernel_rfl) (laid_met os _))) ?_
  intro W base args ds gs before hval0 hW hcd hcond _ hL _ _
  have hval : ∀ (j : Nat) t v, Tryd.f3.params[j]? = some t → args[j]? = some v → Value.okWide Tryd.prog W .any base t v := hval0
  have hbulk := hcond _ rfl
  have hW' := hW
  obtain ⟨p, q, hA0, hV, rfl, hfz, hnd⟩ := hW
  have hA : DataW.TrodAll enc Tryd.prog W 0 (fun _ => true) true Tryd.f3.params.toList args.toList ds p := hA0
  rw [Tryd.params3] at hA hval
  obtain ⟨v0, vs0, d0, ds0, p0, q0, hargs, rfl, rfl, h0, r0⟩ := trodAll_cons hA
  obtain ⟨rfl, rfl, rfl⟩ := trodAll_nil r0
  obtain rfl : args = #[v0] := by cases args; simp_all
  obtain ⟨rfl, rfl⟩ := trodVars_none hV
  have k0 := h0
  have lt0 : ∀ x ∈ p0, x.block < W.heap.size := by obtain ⟨m, hm⟩ := k0; exact DataW.trod_lt m _ _ _ hm
  obtain ⟨u0a, u0b, u0c, y0a, y0b, y0c, n0, rfl, rfl, hp0, hf0a, hf0b, hf0c⟩ := Joins.open_agg3 Tryd.underlying24 (by kernel_rfl) (by kernel_rfl) (hval 0 24 v0 rfl rfl) h0
  obtain ⟨a0, e0a, _, wa0⟩ := DataW.trod_int Tryd.underlying3 hf0a
  obtain rfl : u0a = .int .i64 a0 := by simpa using e0a
  obtain ⟨ao, cap, fs, rfl, hrd, hlc, hcm, hbk⟩ := flds_of hf0b
  obtain ⟨x0, e0c, _, wx0⟩ := DataW.trod_string Tryd.underlying9 hf0c
  obtain rfl : u0c = .string x0 := by simpa using e0c
  have hbk2 : Rows.uptoBulk y0b.1 ≤ 1048576 := by
    have h : Rows.uptoBulkAll [DataW.agg [y0a.1, y0b.1, y0c.1]] ≤ 1048576 := of_decide_eq_true hbulk
    simp only [Rows.uptoBulkAll, Rows.uptoBulk] at h
    omega
  clear hA0 hval0
  have hT := Nu.of_laid hL
  refine (walk a0 wa0 ao cap fs x0 wx0 W hrd hlc hcm (fun f hf => Nat.le_trans (hbk f hf) hbk2) hT).mono fun e W' ⟨he, bel⟩ => ?_
  subst he
  exact ⟨_, rfl, _, _, _, [], _, [], hW', trodAll_mk1 (shut_bool Tryd.underlying4 _), (trodAll_cons_mk (Below.trod laidOut (by kernel_rfl) (of_decide_eq_true (by kernel_rfl)) k0 bel lt0) trodAll_mk0), rfl, bel.frame _, fun h => by cases h⟩
theorem said : Rows.ReplyEncodesUptoSaid :=
  OpenClaim.holds_of_cond 3 Tryd.f3 rfl rfl rfl rfl rfl rfl rfl ⟨rfl, rfl, rfl, rfl, rfl⟩ rfl rfl rfl rfl rfl (by kernel_rfl) Tryd.func3 (by kernel_rfl)
    (of_decide_eq_true (by kernel_rfl)) (by unfold Func.isWrapper; first | (rw [if_pos (by decide +kernel)]; kernel_rfl) | (rw [if_neg (by decide +kernel)]; exact ⟨rfl, rfl⟩))
    (fun os started H enc _ Fi => by rw [OpenClaim.pre_eq_preRow]; exact lifted os started H enc Fi)
theorem plain (f : FuncId) (fn : Func) (hf : Tryd.pinned.checked.prog.funcNamed "larum/larumlaw13.ReplyEncodes" = some f) (hfn : Tryd.pinned.checked.prog.funcs[f]? = some fn) :
    false = Tryd.pinned.checked.prog.looks [] ∧ ∀ (j : Nat) t, fn.params[j]? = some t → Tryd.pinned.checked.prog.wantsStandIn t = false := by
  obtain rfl : f = 3 := Option.some.inj ((show Tryd.prog.funcNamed "larum/larumlaw13.ReplyEncodes" = some 3 by kernel_rfl).symm.trans hf) |>.symm
  obtain rfl : fn = Tryd.f3 := (Option.some.inj (Tryd.func3.symm.trans hfn)).symm
  refine ⟨by kernel_rfl, fun j t ht => ?_⟩
  rw [Tryd.params3] at ht
  obtain rfl : t = 24 := by simpa using Array.mem_of_getElem? ht
  exact (show Tryd.prog.wantsStandIn 24 = false by kernel_rfl)
end Go.Proofs.YtolfenachbbjdaaDoor.replyEncodes
namespace Go.Proofs.YtolfenachbbjdaaDoor
theorem replyEncodes_upto_card : Rows.ReplyEncodesUptoCardSaid :=
  Claim7.holds_tied_plain_at .later [] _ _ _ _ replyEncodes.said (fun _ h => by cases h) (by kernel_rfl) (fun _ h => by cases h) replyEncodesUpto_row_tie rfl ⟨rfl, rfl⟩ (by kernel_rfl) rfl replyEncodes.plain (by kernel_rfl)
#print axioms replyEncodes_upto_card
end Go.Proofs.YtolfenachbbjdaaDoor
