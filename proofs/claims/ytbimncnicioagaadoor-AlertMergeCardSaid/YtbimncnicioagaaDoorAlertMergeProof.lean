/-
  AlertMerge (P22.1): for every two alerts (their sets cut as the law cuts them) package alert's Merge answers as the chapter's plain reading does, and of two right ones it is right; chapter 22's example comes out. Condition: the listed variables of the library and of package utf lie as the program's text lays them (tied card).
-/
import Derived.Test.YtbimncnicioagaaDoorCards
import Derived.Test.YtbimncnicioagaaDoorTie
import Derived.Test.YtbimncnicioagaaDoorLbM
import Derived.ShutString
import Derived.ChangeOld
import Derived.SevenTiedAt
import Derived.Lib.SmallJoins
import Derived.Test.YtbimncnicioagaaDoorAlH
import Derived.Deep.SlicePairs
namespace Go.Proofs.YtbimncnicioagaaDoor.alertMerge
open Go.ChangeShapes Go.WideShapes Go.ChangeAt Go.RowKit
open Go.ChangeMaps (open_string shut_string)
open Go.Proofs.YtbimncnicioagaaDoor.Ch
open Go.Proofs.YtbimncnicioagaaDoor.Lb
open Go.Proofs.YtbimncnicioagaaDoor.Al
set_option linter.unusedVariables false
set_option linter.unusedSimpArgs false

theorem own : ownKnob Tryd.prog.godebug = none := by kernel_rfl
theorem laidOut : laidOutB Tryd.prog = true := by kernel_rfl

theorem b64 {a : Int} (h : (Lit.int .i64 a).wf = true) : -9223372036854775808 ≤ a ∧ a ≤ 9223372036854775807 := by
  simp [Lit.wf, IntKind.min, IntKind.max, IntKind.signed, IntKind.bits] at h
  omega
theorem prs_at {H : Type} {enc : TypeId × Value → H} {W : World} {v : Value} {n : Nat} {x : DataW H × List MemPlace} (h : DataW.trod enc Tryd.prog W 0 (fun _ => true) true n 22 [v] = some x) : ∃ (a : Option Addr) (cap : Nat) (ts : List FB), v = .slice a ts.length cap ∧ Lb.IsPrs W a ts.length ts := by
  have key : ∀ a len cap, v = .slice a len cap → ∃ (a : Option Addr) (cap : Nat) (ts : List FB), v = .slice a ts.length cap ∧ Lb.IsPrs W a ts.length ts := fun a len cap e => by
    subst e
    obtain ⟨ts, hp⟩ := Lb.pairs_of (d := x.1) (p := x.2) ⟨n, h⟩
    obtain rfl := hp.1
    exact ⟨a, cap, ts, rfl, hp⟩
  rcases Deep.open_slice_pairs Tryd.underlying22 Tryd.underlying56 (by kernel_rfl) rfl rfl (by kernel_rfl) (by kernel_rfl) h with ⟨hcs, _⟩ | ⟨a, len, cap, m, k, V0, V1, D0, D1, P0, P1, hcs, hb, hl, hm, hmm, hx, hat⟩
  · exact key none 0 0 (by simpa using hcs)
  · exact key (some a) len cap (by simpa using hcs)
theorem walkM (la : Option Addr) (lc : Nat) (ts : List FB) (na : Option Addr) (nc : Nat) (us : List FB) (s e : Int) (W : World) (h : Al.InA W la na ts us s e) (lb : Option Addr) (lc2 : Nat) (ts2 : List FB) (nb : Option Addr) (nc2 : Nat) (us2 : List FB) (s2 e2 : Int) (h2 : Al.InA W lb nb ts2 us2 s2 e2) (hT : Lb.Ev W) :
    Calls Tryd.prog 4 #[.agg #[.slice la ts.length lc, .slice na us.length nc, .int .i64 s, .int .i64 e], .agg #[.slice lb ts2.length lc2, .slice nb us2.length nc2, .int .i64 s2, .int .i64 e2]] W fun r w' => r = .returned (.bool true) ∧ Below W.heap.size W w' := Al.merge_law la na lb nb lc nc lc2 nc2 ts us ts2 us2 s e s2 e2 W hT h h2

set_option maxRecDepth 100000 in
theorem lifted (os : Os) (started : os.Started) (H : Type) (enc : TypeId × Value → H) :
    ReturnsInHanded {} Tryd.checked os 4 .any (fun w args => (Rows.alertMergeSpec.pre enc Tryd.prog Tryd.f4 [] false w args ∧ laidMetH Tryd.prog [("larum/utf.firsts", Rows.laid_larum_utf_firsts), ("larum/utf.leads", Rows.laid_larum_utf_leads), ("math/bits.deBruijn32tab", Rows.laid_math_bits_deBruijn32tab), ("math/bits.deBruijn64tab", Rows.laid_math_bits_deBruijn64tab), ("internal/strconv.uint64pow10", Rows.laid_internal_strconv_uint64pow10)] w) ∧ sizedMet enc Tryd.prog Tryd.f4 (OpenSpec.ofChange Rows.alertMergeSpec) false w args)
      (Rows.alertMergeSpec.post enc Tryd.prog Tryd.f4 false true false false) := by
  refine returnsInHanded_of_change_and (C := Tryd.checked) (X := fun w _ => laidMetH Tryd.prog [("larum/utf.firsts", Rows.laid_larum_utf_firsts), ("larum/utf.leads", Rows.laid_larum_utf_leads), ("math/bits.deBruijn32tab", Rows.laid_math_bits_deBruijn32tab), ("math/bits.deBruijn64tab", Rows.laid_math_bits_deBruijn64tab), ("internal/strconv.uint64pow10", Rows.laid_internal_strconv_uint64pow10)] w) (fun _ _ _ hh h => h.of_heap hh) own started (by kernel_rfl) Tryd.func4
    (ChangeSpec.witness_shaped (enc := enc) (C := Tryd.checked) (os := os) (X := fun w _ => laidMetH Tryd.prog [("larum/utf.firsts", Rows.laid_larum_utf_firsts), ("larum/utf.leads", Rows.laid_larum_utf_leads), ("math/bits.deBruijn32tab", Rows.laid_math_bits_deBruijn32tab), ("math/bits.deBruijn64tab", Rows.laid_math_bits_deBruijn64tab), ("internal/strconv.uint64pow10", Rows.laid_internal_strconv_uint64pow10)] w) false (World.doorLaid Tryd.prog 400 os) #[.agg #[.slice none 0 0, .slice none 0 0, .int .i64 0, .int .i64 0], .agg #[.slice none 0 0, .slice none 0 0, .int .i64 0, .int .i64 0]] 8 rfl (World.shaped_of_RefB (by kernel_rfl) (by kernel_rfl)) (by kernel_rfl) (by kernel_rfl) (by kernel_rfl) (Lb.door_met os _)) ?_
  intro W base args ds gs before hval0 hW _ _ hL _
  have hval : ∀ (j : Nat) t v, Tryd.f4.params[j]? = some t → args[j]? = some v → Value.okWide Tryd.prog W .any base t v := hval0
  have hW' := hW
  obtain ⟨p, q, hA0, hV, rfl, hfz, hnd⟩ := hW
  have hA : DataW.TrodAll enc Tryd.prog W 0 (fun _ => true) true Tryd.f4.params.toList args.toList ds p := hA0
  rw [Tryd.params4] at hA hval
  obtain ⟨v0, vs0, d0, ds0, p0, q0, hargs, rfl, rfl, h0, r0⟩ := trodAll_cons hA
  obtain ⟨v1, vs1, d1, ds1, p1, q1, rfl, rfl, rfl, h1, r1⟩ := trodAll_cons r0
  obtain ⟨rfl, rfl, rfl⟩ := trodAll_nil r1
  obtain rfl : args = #[v0, v1] := by cases args; simp_all
  obtain ⟨rfl, rfl⟩ := trodVars_none hV
  have k0 := h0
  have lt0 : ∀ x ∈ p0, x.block < W.heap.size := by obtain ⟨m, hm⟩ := k0; exact DataW.trod_lt m _ _ _ hm
  obtain ⟨u0a, u0b, u0c, u0d, y0a, y0b, y0c, y0d, n0, rfl, _, _, hf0a, hf0b, hf0c, hf0d⟩ := Joins.open_agg4 Tryd.underlying24 (by kernel_rfl) (by kernel_rfl) (hval 0 24 v0 rfl rfl) h0
  obtain ⟨la0, lc0, ts0, rfl, wa0⟩ := prs_at hf0a
  obtain ⟨na0, nc0, us0, rfl, wb0⟩ := prs_at hf0b
  obtain ⟨s0, e0c, _, wc0⟩ := DataW.trod_int Tryd.underlying2 hf0c
  obtain ⟨e0, e0d, _, wd0⟩ := DataW.trod_int Tryd.underlying2 hf0d
  obtain rfl : u0c = .int .i64 s0 := by simpa using e0c
  obtain rfl : u0d = .int .i64 e0 := by simpa using e0d
  have k1 := h1
  have lt1 : ∀ x ∈ p1, x.block < W.heap.size := by obtain ⟨m, hm⟩ := k1; exact DataW.trod_lt m _ _ _ hm
  obtain ⟨u1a, u1b, u1c, u1d, y1a, y1b, y1c, y1d, n1, rfl, _, _, hf1a, hf1b, hf1c, hf1d⟩ := Joins.open_agg4 Tryd.underlying24 (by kernel_rfl) (by kernel_rfl) (hval 1 24 v1 rfl rfl) h1
  obtain ⟨la1, lc1, ts1, rfl, wa1⟩ := prs_at hf1a
  obtain ⟨na1, nc1, us1, rfl, wb1⟩ := prs_at hf1b
  obtain ⟨s1, e1c, _, wc1⟩ := DataW.trod_int Tryd.underlying2 hf1c
  obtain ⟨e1, e1d, _, wd1⟩ := DataW.trod_int Tryd.underlying2 hf1d
  obtain rfl : u1c = .int .i64 s1 := by simpa using e1c
  obtain rfl : u1d = .int .i64 e1 := by simpa using e1d
  clear hA0 hval0
  have hT := Lb.of_laid hL
  refine (walkM la0 lc0 ts0 na0 nc0 us0 s0 e0 W ⟨wa0, wb0, b64 wc0, b64 wd0⟩ la1 lc1 ts1 na1 nc1 us1 s1 e1 ⟨wa1, wb1, b64 wc1, b64 wd1⟩ hT).mono fun e W' ⟨he, bel⟩ => ?_
  subst he
  exact ⟨_, rfl, _, _, _, [], _, [], hW', trodAll_mk1 (shut_bool Tryd.underlying4 _), (trodAll_cons_mk (Below.trod laidOut (by kernel_rfl) (of_decide_eq_true (by kernel_rfl)) k0 bel lt0) (trodAll_cons_mk (Below.trod laidOut (by kernel_rfl) (of_decide_eq_true (by kernel_rfl)) k1 bel lt1) trodAll_mk0)), rfl, bel.frame _, fun h => by cases h⟩

theorem over : Rows.AlertMergeSaid :=
  OpenClaim.holds_of_wide 4 Tryd.f4 rfl rfl rfl rfl rfl rfl rfl ⟨rfl, rfl, rfl, rfl, rfl⟩ rfl rfl rfl rfl rfl (by kernel_rfl) Tryd.func4 (by kernel_rfl)
    (of_decide_eq_true (by kernel_rfl)) (by unfold Func.isWrapper; first | (rw [if_pos (by decide +kernel)]; kernel_rfl) | (rw [if_neg (by decide +kernel)]; exact ⟨rfl, rfl⟩))
    (fun os started H enc _ => lifted os started H enc)
end Go.Proofs.YtbimncnicioagaaDoor.alertMerge
namespace Go.Proofs.YtbimncnicioagaaDoor
theorem alertMerge_card : Rows.AlertMergeCardSaid :=
  Claim7.holds_tied_plain_at .later [] [.data, .data, .data, .data, .data] true (true, "841e9aa3514ea8f076d64115422f96764da6e82823f632f5322f8d1fdebcc8e8") false
    alertMerge.over (fun _ h => by cases h) (by kernel_rfl) (fun _ h => by cases h) alertMerge_row_tie rfl ⟨rfl, rfl⟩ (by kernel_rfl) rfl
    (fun f fn hf hfn => by
      obtain rfl : f = 4 := Option.some.inj ((show Tryd.prog.funcNamed Tryd.f4.name = some 4 by kernel_rfl).symm.trans hf) |>.symm
      obtain rfl : fn = Tryd.f4 := (Option.some.inj (Tryd.func4.symm.trans hfn)).symm
      exact ⟨by kernel_rfl, fun j t ht => by
        rw [Tryd.params4] at ht
        have hm : t ∈ [24, 24] := by simpa using Array.mem_of_getElem? ht
        have hall : ([24, 24].all fun u => !Tryd.prog.wantsStandIn u) = true := by kernel_rfl
        exact (show Tryd.prog.wantsStandIn t = false by simpa using List.all_eq_true.1 hall t hm)⟩)
    (by kernel_rfl)
#print axioms alertMerge_card
end Go.Proofs.YtbimncnicioagaaDoor
