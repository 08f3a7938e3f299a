/-
  HeadEnds (P10.5): for every two texts (the first five hundred bytes of each) and all limits, what package head's Parse tells of the first but that more bytes are needed, it tells of the first with the second behind it; with More it tells nothing, and what it takes lies within the text; chapter 10's example comes out. Condition: the listed variables of the library lie as the program's text lays them (tied card).
-/
import Derived.Test.YtdgjhbonldfgpaaDoorCards
import Derived.Test.YtdgjhbonldfgpaaDoorTie
import Derived.Test.YtdgjhbonldfgpaaDoorHdLaid
import Derived.ShutString
import Derived.ChangeOld
import Derived.SevenTiedAt
import Derived.Lib.SmallJoins
import Derived.Deep.DeepHandedRow
import Derived.Lay
import Derived.LaidHandle
import Derived.ProofKit
import Derived.OpenShut
import Derived.LaidMore
import Derived.Lib.LaidTab
import Derived.Stop.Joined
namespace Go.Proofs.YtdgjhbonldfgpaaDoor.headEnds
open Go.ChangeShapes Go.WideShapes Go.ChangeAt Go.RowKit
open Go.ChangeMaps (open_string shut_string)
open Go.Proofs.YtdgjhbonldfgpaaDoor.Ch
open Go.Proofs.YtdgjhbonldfgpaaDoor.Hd
set_option linter.unusedVariables false
set_option linter.unusedSimpArgs false

theorem own : ownKnob Tryd.prog.godebug = none := by kernel_rfl
theorem laidOut : laidOutB Tryd.prog = true := by kernel_rfl

def shortL (l : List UInt8) : List UInt8 := l.take 500
theorem short_sz (a : ByteArray) : (mkS (shortL a.data.toList)).size ≤ 500 := by rw [size_mkS]; unfold shortL; rw [List.length_take]; omega
theorem short_c (s : ByteArray) (w : World) (hs : s.size ≤ maxLen) : Calls Tryd.prog 5 #[.string s] w fun e w' => e = .returned (.string (mkS (shortL s.data.toList))) ∧ w = w' := by
  unfold maxLen at hs
  by_cases h : 500 < s.size
  · have h' : (500 : Int) < (s.size : Int) := by omega
    go_enter Tryd.func5, Tryd.ntmps5
    go_wp2
    go_ret
    exact ⟨Hd.ret_str (mkS_of (by rw [Lib.extract_data]; simp [shortL])), rfl⟩
  · have h' : (s.size : Int) ≤ 500 := by omega
    have H := Lib.hid h
    go_enter Tryd.func5, Tryd.ntmps5
    go_wp2
    go_ret
    exact ⟨Hd.ret_str (mkS_of (by have := H.out; rw [Lib.size_eq] at this; unfold shortL; rw [List.take_of_length_le (by omega)])), rfl⟩
theorem hd_len {l : List UInt8} {a b : Int} {x : FirT × List FldL × Nat} (h : hdL l a b = .ok x) : x.2.1.length ≤ l.length + 1 := by
  unfold hdL at h
  cases hf : fhL l a with
  | error st' => rw [hf] at h; cases h
  | ok z =>
    rw [hf] at h
    simp only at h
    cases hd : fldF (l.length + 1) l z.2 a b [] with
    | error s2 => rw [hd] at h; cases h
    | ok y =>
      rw [hd] at h
      simp only at h
      split at h
      · cases h
      · injection h with e; rw [← e]; have := (fld_bd _ _ _ _ _ _ _ hd (fun x hx => by cases hx)).1; simpa using this
theorem walk (a0 : ByteArray) (w0 : a0.size ≤ maxLen) (a1 : ByteArray) (w1 : a1.size ≤ maxLen) (la lb lc : Int) (w : World) (hT : Mx w ∧ ErT w) :
    Calls Tryd.prog 3 #[.string a0, .string a1, .agg #[.int .i64 la, .int .i64 lb, .int .i64 lc]] w fun e w' => e = .returned (.bool true) ∧ Below w.heap.size w w' := by
  have hsh := Lib.hid (fun W => short_c a0 W w0)
  have hsz := short_sz a0
  have hsh2 := Lib.hid (fun W => short_c a1 W w1)
  have hsz2 := short_sz a1
  revert hsh hsz hsh2 hsz2
  generalize mkS (shortL a0.data.toList) = s
  generalize mkS (shortL a1.data.toList) = m
  intro hsh hsz hsh2 hsz2
  have hsl := Lib.size_eq s
  have hap : (s ++ m).data.toList = s.data.toList ++ m.data.toList := by simp
  have hP := fun W hM hE => Parse_g s la lb lc W hM hE (by omega)
  have hQ := fun W hM hE => Parse_g (s ++ m) la lb lc W hM hE (by rw [ByteArray.size_append]; omega)
  rw [hap] at hQ
  cases hq : hdL s.data.toList (clmp la 16 8192) (clmp lb 1 100) with
  | error st =>
    rw [hq] at hP
    by_cases h1 : st = 1
    · subst h1
      exact walkA a0 a1 s m ⟨#[]⟩ ⟨#[]⟩ la lb lc 0 [] w (Lib.hid hT.1) (Lib.hid hT.2) (by simp) hsz hsz2 hsh hsh2 (Lib.hid fun W hM hE => (hP W hM hE).mono fun e w' h => ⟨none, 0, h.1, World.ownsRow_nil _ _ _ _, h.2⟩)
    · rw [hd_app _ (by rw [hq]; exact fun e => h1 (by injection e)), hq] at hQ
      exact walkB a0 a1 s m ⟨#[]⟩ ⟨#[]⟩ la lb lc 0 0 st [] w (Lib.hid hT.1) (Lib.hid hT.2) (by simp) (beq_eq_false_iff_ne.2 h1) (by omega) (by omega) hsz hsz2 hsh hsh2 (Lib.hid fun W hM hE => (hP W hM hE).mono fun e w' h => ⟨none, 0, h.1, World.ownsRow_nil _ _ _ _, h.2⟩) (Lib.hid fun W hM hE => (hQ W hM hE).mono fun e w' h => ⟨none, 0, h.1, World.ownsRow_nil _ _ _ _, h.2⟩)
  | ok x =>
    have hpl := hd_pl hq
    have hml := hd_len hq
    rw [hd_app _ (by rw [hq]; exact fun e => by cases e), hq] at hQ
    rw [hq] at hP
    exact walkB a0 a1 s m (mkS x.1.1) (mkS x.1.2.1) la lb lc x.1.2.2 (x.2.2 : Int) 0 x.2.1 w (Lib.hid hT.1) (Lib.hid hT.2) (by omega) (by decide) (by omega) (by omega) hsz hsz2 hsh hsh2 (Lib.hid hP) (Lib.hid hQ)

/-- a world that meets the condition on the listed variables -/
noncomputable def wit (os : Os) : World := (World.doorLaid Tryd.prog 400 os).layVars Tryd.prog [("unicode/utf8.acceptRanges", Rows.laid_unicode_utf8_acceptRanges), ("unicode/utf8.first", Rows.laid_unicode_utf8_first)]
theorem door_met (os : Os) (args : Array Value) : laidMetH Tryd.prog [("unicode/utf8.acceptRanges", Rows.laid_unicode_utf8_acceptRanges), ("errors.errorType", Rows.laid_errors_errorType), ("unicode/utf8.first", Rows.laid_unicode_utf8_first)] ((wit os).forCall (fun _ _ => 0) ⟨#[], args, []⟩).memory :=
  laidMetH_of_parts3 (fuel := 8) (laidMet_layVars (w0 := World.doorLaid Tryd.prog 400 os) ["unicode/utf8.acceptRanges", "unicode/utf8.first"] [] (by simp [World.memory, World.forCall, Input.heap]; rfl) (by kernel_rfl) (by kernel_rfl) LaidIn.none) (by kernel_rfl) (by kernel_rfl)
theorem mx_of {W : World} (h : W.ShapedOpen Tryd.prog) : Mx W := Tryd.laysM145.s1_3 W h
set_option maxRecDepth 100000 in
theorem lifted (os : Os) (started : os.Started) (H : Type) (enc : TypeId × Value → H) :
    ReturnsInHanded {} Tryd.checked os 3 .any (fun w args => (Rows.headEndsSpec.pre enc Tryd.prog Tryd.f3 [] false w args ∧ laidMetH Tryd.prog [("unicode/utf8.acceptRanges", Rows.laid_unicode_utf8_acceptRanges), ("errors.errorType", Rows.laid_errors_errorType), ("unicode/utf8.first", Rows.laid_unicode_utf8_first)] w) ∧ sizedMet enc Tryd.prog Tryd.f3 (OpenSpec.ofChange Rows.headEndsSpec) false w args)
      (Rows.headEndsSpec.post enc Tryd.prog Tryd.f3 false true false false) := by
  refine returnsInHanded_of_row (C := Tryd.checked) (s := OpenSpec.ofChange Rows.headEndsSpec) (F := fun _ _ _ => 0) (laid := [("unicode/utf8.acceptRanges", Rows.laid_unicode_utf8_acceptRanges), ("errors.errorType", Rows.laid_errors_errorType), ("unicode/utf8.first", Rows.laid_unicode_utf8_first)]) own started (by kernel_rfl) Tryd.func3
    (ChangeSpec.witness_shaped (enc := enc) (C := Tryd.checked) (os := os) (X := fun w _ => laidMetH Tryd.prog [("unicode/utf8.acceptRanges", Rows.laid_unicode_utf8_acceptRanges), ("errors.errorType", Rows.laid_errors_errorType), ("unicode/utf8.first", Rows.laid_unicode_utf8_first)] w) false (wit os) #[.string ByteArray.empty, .string ByteArray.empty, .agg #[.int .i64 0, .int .i64 0, .int .i64 0]] 8 ((World.layVars_os _ _ _).trans rfl) (World.shaped_of_ZipB (by kernel_rfl) (by kernel_rfl)) (by kernel_rfl) (by kernel_rfl) (by kernel_rfl) (door_met os _)) ?_
  intro W base args ds gs before hval0 hW _ _ _ hL hSh _
  have hval : ∀ (j : Nat) t v, Tryd.f3.params[j]? = some t → args[j]? = some v → Value.okWide Tryd.prog W .any base t v := hval0
  have hW' := hW
  obtain ⟨p, q, hA0, hV, rfl, hfz, hnd⟩ := hW
  have hA : DataW.TrodAll enc Tryd.prog W 0 (fun _ => true) true Tryd.f3.params.toList args.toList ds p := hA0
  rw [Tryd.params3] at hA hval
  obtain ⟨v0, vs0, d0, ds0, p0, q0, hargs, rfl, rfl, h0, r0⟩ := trodAll_cons hA
  obtain ⟨v1, vs1, d1, ds1, p1, q1, rfl, rfl, rfl, h1, r1⟩ := trodAll_cons r0
  obtain ⟨v2, vs2, d2, ds2, p2, q2, rfl, rfl, rfl, h2, r2⟩ := trodAll_cons r1
  obtain ⟨rfl, rfl, rfl⟩ := trodAll_nil r2
  obtain rfl : args = #[v0, v1, v2] := by cases args; simp_all
  obtain ⟨rfl, rfl⟩ := trodVars_none hV
  obtain ⟨a0, rfl, rfl, rfl, w0⟩ := open_string Tryd.underlying9 (hval 0 9 v0 rfl rfl) h0
  obtain ⟨a1, rfl, rfl, rfl, w1⟩ := open_string Tryd.underlying9 (hval 1 9 v1 rfl rfl) h1
  have k2 := h2
  have lt2 : ∀ x ∈ p2, x.block < W.heap.size := by obtain ⟨m, hm⟩ := k2; exact DataW.trod_lt m _ _ _ hm
  obtain ⟨u2a, u2b, u2c, y2a, y2b, y2c, n2, rfl, _, _, hf2a, hf2b, hf2c⟩ := Joins.open_agg3 Tryd.underlying23 (by kernel_rfl) (by kernel_rfl) (hval 2 23 v2 rfl rfl) h2
  obtain ⟨la, e2a, _, wla⟩ := DataW.trod_int Tryd.underlying3 hf2a
  obtain ⟨lb, e2b, _, wlb⟩ := DataW.trod_int Tryd.underlying3 hf2b
  obtain ⟨lc, e2c, _, wlc⟩ := DataW.trod_int Tryd.underlying3 hf2c
  obtain rfl : u2a = .int .i64 la := by simpa using e2a
  obtain rfl : u2b = .int .i64 lb := by simpa using e2b
  obtain rfl : u2c = .int .i64 lc := by simpa using e2c
  clear hA0 hval0
  have hT := And.intro (mx_of hSh) (ert_of hL.2)
  refine (walk a0 w0 a1 w1 la lb lc W hT).mono fun e W' ⟨he, bel⟩ => ?_
  subst he
  exact ⟨_, rfl, _, _, _, [], _, [], hW', trodAll_mk1 (shut_bool Tryd.underlying4 _), (trodAll_cons_mk (shut_string Tryd.underlying9 w0) (trodAll_cons_mk (shut_string Tryd.underlying9 w1) (trodAll_cons_mk (Below.trod laidOut (by kernel_rfl) (of_decide_eq_true (by kernel_rfl)) k2 bel lt2) trodAll_mk0))), rfl, bel.frame _, fun h => by cases h⟩

theorem over : Rows.HeadEndsSaid :=
  OpenClaim.holds_of_wide 3 Tryd.f3 rfl rfl rfl rfl rfl rfl rfl ⟨rfl, rfl, rfl, rfl, rfl⟩ rfl rfl rfl rfl rfl (by kernel_rfl) Tryd.func3 (by kernel_rfl)
    (of_decide_eq_true (by kernel_rfl)) (by unfold Func.isWrapper; first | (rw [if_pos (by decide +kernel)]; kernel_rfl) | (rw [if_neg (by decide +kernel)]; exact ⟨rfl, rfl⟩))
    (fun os started H enc _ => lifted os started H enc)
end Go.Proofs.YtdgjhbonldfgpaaDoor.headEnds
namespace Go.Proofs.YtdgjhbonldfgpaaDoor
theorem headEnds_card : Rows.HeadEndsCardSaid :=
  Claim7.holds_tied_plain_at .later [] [.data, .handle, .pinned] true (true, "a249abf9d16dfb39f53b340467c8e4400dc72ebb16a400fb25b8ae7cc964ce69") true
    headEnds.over (fun _ h => by cases h) (by kernel_rfl) (fun _ h => by cases h) headEnds_row_tie rfl ⟨rfl, rfl⟩ (by kernel_rfl) rfl
    (fun f fn hf hfn => by
      obtain rfl : f = 3 := Option.some.inj ((show Tryd.prog.funcNamed Tryd.f3.name = some 3 by kernel_rfl).symm.trans hf) |>.symm
      obtain rfl : fn = Tryd.f3 := (Option.some.inj (Tryd.func3.symm.trans hfn)).symm
      exact ⟨by kernel_rfl, fun j t ht => by
        rw [Tryd.params3] at ht
        have hm : t ∈ [9, 9, 23] := by simpa using Array.mem_of_getElem? ht
        have hall : ([9, 9, 23].all fun u => !Tryd.prog.wantsStandIn u) = true := by kernel_rfl
        exact (show Tryd.prog.wantsStandIn t = false by simpa using List.all_eq_true.1 hall t hm)⟩)
    (by kernel_rfl)
#print axioms headEnds_card
end Go.Proofs.YtdgjhbonldfgpaaDoor
