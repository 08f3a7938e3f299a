/-
  ChunkEnds (P11.4): for every two texts (the first five hundred bytes of each) and all limits, what package chunk's Parse tells of the first but that more bytes are needed, it tells of the first with the second behind it; with More it tells nothing, and what it takes lies within the text; chapter 11's example comes out. Condition: the listed variables of the library lie as the program's text lays them (tied card).
-/
import Derived.Test.YtmnodjbmaifglaaDoorCards
import Derived.Test.YtmnodjbmaifglaaDoorTie
import Derived.Test.YtmnodjbmaifglaaDoorCkWlk
import Derived.ShutString
import Derived.ChangeOld
import Derived.SevenTiedAt
import Derived.Lib.SmallJoins
import Derived.Deep.DeepHandedRow
import Derived.Lay
import Derived.LaidHandle
import Derived.ProofKit
import Derived.OpenShut
import Derived.LaidMore
import Derived.Lib.LaidTab
import Derived.Stop.Joined
namespace Go.Proofs.YtmnodjbmaifglaaDoor.chunkEnds
open Go.ChangeShapes Go.WideShapes Go.ChangeAt Go.RowKit
open Go.ChangeMaps (open_string shut_string)
open Go.Proofs.YtmnodjbmaifglaaDoor.Ch
open Go.Proofs.YtmnodjbmaifglaaDoor.Hd
set_option linter.unusedVariables false
set_option linter.unusedSimpArgs false

theorem own : ownKnob Tryd.prog.godebug = none := by kernel_rfl
theorem laidOut : laidOutB Tryd.prog = true := by kernel_rfl

theorem walk (a0 : ByteArray) (w0 : a0.size ≤ maxLen) (a1 : ByteArray) (w1 : a1.size ≤ maxLen) (la lb lc : Int) (w : World) (hT : Mx w) :
    Calls Tryd.prog 3 #[.string a0, .string a1, .agg #[.int .i64 la, .int .i64 lb, .int .i64 lc]] w fun e w' => e = .returned (.bool true) ∧ Below w.heap.size w w' := by
  have hsh := Lib.hid (fun W => Hd.short_c a0 W w0)
  have hsz := Hd.short_sz a0
  have hsh2 := Lib.hid (fun W => Hd.short_c a1 W w1)
  have hsz2 := Hd.short_sz a1
  revert hsh hsz hsh2 hsz2
  generalize mkS (Hd.shortL a0.data.toList) = s
  generalize mkS (Hd.shortL a1.data.toList) = m
  intro hsh hsz hsh2 hsz2
  have hsl := Lib.size_eq s
  have hap : (s ++ m).data.toList = s.data.toList ++ m.data.toList := by simp
  have hP := fun W hM => CParse_c s la lb lc W hM (by omega) _ rfl
  have hQ := fun W hM => CParse_c (s ++ m) la lb lc W hM (by rw [ByteArray.size_append]; omega) _ rfl
  rw [hap] at hQ
  have hpl := mach_pl (s.data.toList.length + 1) s.data.toList (clmp la 16 8192) (clmp lb 1 100) (clmp lc 0 1048576) x0 (inv0 _)
  have hap2 : (finL s.data.toList (clmp la 16 8192) (clmp lb 1 100) (clmp lc 0 1048576)).st ≠ 1 → finL (s.data.toList ++ m.data.toList) (clmp la 16 8192) (clmp lb 1 100) (clmp lc 0 1048576) = finL s.data.toList (clmp la 16 8192) (clmp lb 1 100) (clmp lc 0 1048576) := fun h =>
    mach_app (s.data.toList.length + 1) ((s.data.toList ++ m.data.toList).length + 1) s.data.toList m.data.toList _ _ _ x0 (inv0 _) (.inr (by show _ < 0 + _; omega)) (by decide) (by rw [List.length_append]; omega) h
  change (finL s.data.toList (clmp la 16 8192) (clmp lb 1 100) (clmp lc 0 1048576)).k ≤ _ at hpl
  revert hP hQ hpl hap2
  generalize finL s.data.toList (clmp la 16 8192) (clmp lb 1 100) (clmp lc 0 1048576) = q
  generalize finL (s.data.toList ++ m.data.toList) (clmp la 16 8192) (clmp lb 1 100) (clmp lc 0 1048576) = q2
  intro hP hQ hap2 hpl
  by_cases h1 : q.st = 1
  · rw [if_neg (by omega), h1] at hP
    exact cwA a0 a1 s m la lb lc 0 0 w (Lib.hid hT) hsz hsz2 hsh hsh2 (Lib.hid hP)
  · have e := hap2 h1
    subst e
    by_cases h0 : q2.st = 0
    · rw [if_pos h0] at hP hQ
      exact cwB a0 a1 s m _ la lb lc _ 0 w (Lib.hid hT) (by decide) (by omega) (by omega) hsz hsz2 hsh hsh2 (Lib.hid hP) (Lib.hid hQ)
    · rw [if_neg h0] at hP hQ
      exact cwB a0 a1 s m _ la lb lc 0 _ w (Lib.hid hT) (beq_eq_false_iff_ne.2 h1) (by omega) (by omega) hsz hsz2 hsh hsh2 (Lib.hid hP) (Lib.hid hQ)

/-- a world that meets the condition on the listed variables -/
noncomputable def wit (os : Os) : World := (World.doorLaid Tryd.prog 400 os).layVars Tryd.prog [("unicode/utf8.acceptRanges", Rows.laid_unicode_utf8_acceptRanges), ("unicode/utf8.first", Rows.laid_unicode_utf8_first)]
theorem door_met (os : Os) (args : Array Value) : laidMetH Tryd.prog [("unicode/utf8.acceptRanges", Rows.laid_unicode_utf8_acceptRanges), ("unicode/utf8.first", Rows.laid_unicode_utf8_first)] ((wit os).forCall (fun _ _ => 0) ⟨#[], args, []⟩).memory :=
  laidMetH_of_parts3 (fuel := 8) (laidMet_layVars (w0 := World.doorLaid Tryd.prog 400 os) ["unicode/utf8.acceptRanges", "unicode/utf8.first"] [] (by simp [World.memory, World.forCall, Input.heap]; rfl) (by kernel_rfl) (by kernel_rfl) LaidIn.none) (by kernel_rfl) (by kernel_rfl)
theorem mx_of {W : World} (h : W.ShapedOpen Tryd.prog) : Mx W := Tryd.laysM145.s1_3 W h
set_option maxRecDepth 100000 in
theorem lifted (os : Os) (started : os.Started) (H : Type) (enc : TypeId × Value → H) :
    ReturnsInHanded {} Tryd.checked os 3 .any (fun w args => (Rows.chunkEndsSpec.pre enc Tryd.prog Tryd.f3 [] false w args ∧ laidMetH Tryd.prog [("unicode/utf8.acceptRanges", Rows.laid_unicode_utf8_acceptRanges), ("unicode/utf8.first", Rows.laid_unicode_utf8_first)] w) ∧ sizedMet enc Tryd.prog Tryd.f3 (OpenSpec.ofChange Rows.chunkEndsSpec) false w args)
      (Rows.chunkEndsSpec.post enc Tryd.prog Tryd.f3 false true false false) := by
  refine returnsInHanded_of_row (C := Tryd.checked) (s := OpenSpec.ofChange Rows.chunkEndsSpec) (F := fun _ _ _ => 0) (laid := [("unicode/utf8.acceptRanges", Rows.laid_unicode_utf8_acceptRanges), ("unicode/utf8.first", Rows.laid_unicode_utf8_first)]) own started (by kernel_rfl) Tryd.func3
    (ChangeSpec.witness_shaped (enc := enc) (C := Tryd.checked) (os := os) (X := fun w _ => laidMetH Tryd.prog [("unicode/utf8.acceptRanges", Rows.laid_unicode_utf8_acceptRanges), ("unicode/utf8.first", Rows.laid_unicode_utf8_first)] w) false (wit os) #[.string ByteArray.empty, .string ByteArray.empty, .agg #[.int .i64 0, .int .i64 0, .int .i64 0]] 8 ((World.layVars_os _ _ _).trans rfl) (World.shaped_of_ZipB (by kernel_rfl) (by kernel_rfl)) (by kernel_rfl) (by kernel_rfl) (by kernel_rfl) (door_met os _)) ?_
  intro W base args ds gs before hval0 hW _ _ _ hL hSh _
  have hval : ∀ (j : Nat) t v, Tryd.f3.params[j]? = some t → args[j]? = some v → Value.okWide Tryd.prog W .any base t v := hval0
  have hW' := hW
  obtain ⟨p, q, hA0, hV, rfl, hfz, hnd⟩ := hW
  have hA : DataW.TrodAll enc Tryd.prog W 0 (fun _ => true) true Tryd.f3.params.toList args.toList ds p := hA0
  rw [Tryd.params3] at hA hval
  obtain ⟨v0, vs0, d0, ds0, p0, q0, hargs, rfl, rfl, h0, r0⟩ := trodAll_cons hA
  obtain ⟨v1, vs1, d1, ds1, p1, q1, rfl, rfl, rfl, h1, r1⟩ := trodAll_cons r0
  obtain ⟨v2, vs2, d2, ds2, p2, q2, rfl, rfl, rfl, h2, r2⟩ := trodAll_cons r1
  obtain ⟨rfl, rfl, rfl⟩ := trodAll_nil r2
  obtain rfl : args = #[v0, v1, v2] := by cases args; simp_all
  obtain ⟨rfl, rfl⟩ := trodVars_none hV
  obtain ⟨a0, rfl, rfl, rfl, w0⟩ := open_string Tryd.underlying9 (hval 0 9 v0 rfl rfl) h0
  obtain ⟨a1, rfl, rfl, rfl, w1⟩ := open_string Tryd.underlying9 (hval 1 9 v1 rfl rfl) h1
  have k2 := h2
  have lt2 : ∀ x ∈ p2, x.block < W.heap.size := by obtain ⟨m, hm⟩ := k2; exact DataW.trod_lt m _ _ _ hm
  obtain ⟨u2a, u2b, u2c, y2a, y2b, y2c, n2, rfl, _, _, hf2a, hf2b, hf2c⟩ := Joins.open_agg3 Tryd.underlying23 (by kernel_rfl) (by kernel_rfl) (hval 2 23 v2 rfl rfl) h2
  obtain ⟨la, e2a, _, wla⟩ := DataW.trod_int Tryd.underlying3 hf2a
  obtain ⟨lb, e2b, _, wlb⟩ := DataW.trod_int Tryd.underlying3 hf2b
  obtain ⟨lc, e2c, _, wlc⟩ := DataW.trod_int Tryd.underlying3 hf2c
  obtain rfl : u2a = .int .i64 la := by simpa using e2a
  obtain rfl : u2b = .int .i64 lb := by simpa using e2b
  obtain rfl : u2c = .int .i64 lc := by simpa using e2c
  clear hA0 hval0
  have hT := mx_of hSh
  refine (walk a0 w0 a1 w1 la lb lc W hT).mono fun e W' ⟨he, bel⟩ => ?_
  subst he
  exact ⟨_, rfl, _, _, _, [], _, [], hW', trodAll_mk1 (shut_bool Tryd.underlying4 _), (trodAll_cons_mk (shut_string Tryd.underlying9 w0) (trodAll_cons_mk (shut_string Tryd.underlying9 w1) (trodAll_cons_mk (Below.trod laidOut (by kernel_rfl) (of_decide_eq_true (by kernel_rfl)) k2 bel lt2) trodAll_mk0))), rfl, bel.frame _, fun h => by cases h⟩

theorem over : Rows.ChunkEndsSaid :=
  OpenClaim.holds_of_wide 3 Tryd.f3 rfl rfl rfl rfl rfl rfl rfl ⟨rfl, rfl, rfl, rfl, rfl⟩ rfl rfl rfl rfl rfl (by kernel_rfl) Tryd.func3 (by kernel_rfl)
    (of_decide_eq_true (by kernel_rfl)) (by unfold Func.isWrapper; first | (rw [if_pos (by decide +kernel)]; kernel_rfl) | (rw [if_neg (by decide +kernel)]; exact ⟨rfl, rfl⟩))
    (fun os started H enc _ => lifted os started H enc)
end Go.Proofs.YtmnodjbmaifglaaDoor.chunkEnds
namespace Go.Proofs.YtmnodjbmaifglaaDoor
theorem chunkEnds_card : Rows.ChunkEndsCardSaid :=
  Claim7.holds_tied_plain_at .later [] [.data, .pinned] true (true, "b192f3c86887781b44ba7cf80fbbbdef59e6742151fad84bd664eb8db6c3edc6") false
    chunkEnds.over (fun _ h => by cases h) (by kernel_rfl) (fun _ h => by cases h) chunkEnds_row_tie rfl ⟨rfl, rfl⟩ (by kernel_rfl) rfl
    (fun f fn hf hfn => by
      obtain rfl : f = 3 := Option.some.inj ((show Tryd.prog.funcNamed Tryd.f3.name = some 3 by kernel_rfl).symm.trans hf) |>.symm
      obtain rfl : fn = Tryd.f3 := (Option.some.inj (Tryd.func3.symm.trans hfn)).symm
      exact ⟨by kernel_rfl, fun j t ht => by
        rw [Tryd.params3] at ht
        have hm : t ∈ [9, 9, 23] := by simpa using Array.mem_of_getElem? ht
        have hall : ([9, 9, 23].all fun u => !Tryd.prog.wantsStandIn u) = true := by kernel_rfl
        exact (show Tryd.prog.wantsStandIn t = false by simpa using List.all_eq_true.1 hall t hm)⟩)
    (by kernel_rfl)
#print axioms chunkEnds_card
end Go.Proofs.YtmnodjbmaifglaaDoor
