/- Contracts of package pin's New, Len, Rev, Drop, Keep: at all pins of the call's own, and at none; no other condition. -/
import Derived.Test.YtjjnjankjbiigaaPnB
namespace Go.Proofs.Ytjjnjankjbiigaa.Pn
open Go.RowKit Go.Lib Go.Maps
set_option linter.unusedSimpArgs false
set_option linter.unusedVariables false

abbrev obP (m n : Int) (mb : Option Nat) : Obj := .cells #[.int .i64 m, .int .i64 n, .map mb] 48
/-- the program's pins: their block c, their map's block, how many may be, all that ever were -/
structure IsPn (B c : Nat) (mb : Option Nat) (m : Int) (l : List Pin) (W : World) : Prop where
  ob : W.heap[c]? = some (.cells #[.int .i64 m, .int .i64 (l.length : Nat), .map mb] 48 (0, 0))
  ne : mb ≠ some c
  mp : (mb = none ∧ l = []) ∨ ∃ b, mb = some b ∧ B ≤ b ∧ SetP b l W
theorem IsPn.lt {B c : Nat} {mb : Option Nat} {m : Int} {l : List Pin} {W : World} (h : IsPn B c mb m l W) : c < W.heap.size := (Array.getElem?_eq_some_iff.1 h.ob).1
theorem IsPn.row {B c : Nat} {mb : Option Nat} {m : Int} {l : List Pin} {W : World} (h : IsPn B c mb m l W) : ∀ g, mb = some g → B ≤ g ∧ g < W.heap.size := by
  intro g hg
  rcases h.mp with ⟨e, _⟩ | ⟨b, e, hB, hS⟩
  · rw [e] at hg; cases hg
  · rw [e] at hg; injection hg with hg; subst hg; exact ⟨hB, hS.lt⟩
theorem IsPn.kept {B c : Nat} {mb : Option Nat} {m : Int} {l : List Pin} {w W : World} (h : IsPn B c mb m l w) (hc : W.heap[c]? = w.heap[c]?) (hb : ∀ g, mb = some g → W.heap[g]? = w.heap[g]?) : IsPn B c mb m l W := by
  refine ⟨hc.trans h.ob, h.ne, ?_⟩
  rcases h.mp with h | ⟨b, e, hB, hS⟩
  · exact .inl h
  · exact .inr ⟨b, e, hB, hS.keep (hb b e)⟩
theorem IsPn.go {B c : Nat} {mb : Option Nat} {m : Int} {l : List Pin} {w W : World} (h : IsPn B c mb m l w) (hb : Below w.heap.size w W) : IsPn B c mb m l W :=
  h.kept (hb.block _ h.lt) (fun g hg => hb.block _ (h.row g hg).2)
set_option maxRecDepth 100000 in
set_option maxHeartbeats 1000000 in
theorem New_c (m : Int) (w : World) : Calls Try.prog 6 #[.int .i64 m] w fun e w' => e = .returned (.pointer (some ⟨w.heap.size, 0, none⟩)) ∧ IsPn w.heap.size w.heap.size none m [] w' ∧ Below w.heap.size w w' := by
  obtain ⟨W, hW, hk, hb⟩ := new3 w (.int .i64 m) (.int .i64 0) (.map none) 48
  have HW := Lib.hid hW
  have HK := Lib.hid hk
  have HB := Lib.hid hb
  clear hW hk hb
  go_enter Try.func6, Try.ntmps6
  go_wp2
  rw [← HW.out]
  go_ret
  exact ⟨rfl, ⟨HK.out, by simp, .inl ⟨rfl, rfl⟩⟩, HB.out⟩
set_option maxRecDepth 100000 in
set_option maxHeartbeats 1000000 in
theorem Len_c {B c : Nat} {mb : Option Nat} {m : Int} {l : List Pin} {w : World} (h : IsPn B c mb m l w) : Calls Try.prog 9 #[.pointer (some ⟨c, 0, none⟩)] w fun e w' => e = .returned (.int .i64 (cnt l : Nat)) ∧ w' = w := by
  obtain ⟨c0, c1, c2⟩ := cells3 h.ob
  rcases h.mp with ⟨rfl, rfl⟩ | ⟨b, rfl, hB, hS⟩
  · have hl := fun ty => Maps.len_nil (P := Try.prog) (w := w) Try.underlying46 ty
    clear h
    go_enter Try.func9, Try.ntmps9
    go_wp2
    go_ret
    exact ⟨rfl, rfl⟩
  · have hl := fun ty => hS.len ty
    clear h hS
    go_enter Try.func9, Try.ntmps9
    go_wp2
    go_ret
    exact ⟨rfl, rfl⟩
theorem Len_nil (w : World) : Calls Try.prog 9 #[.pointer none] w fun e w' => e = .returned (.int .i64 0) ∧ w' = w := by
  go_enter Try.func9, Try.ntmps9
  go_wp2
  go_ret
  exact ⟨rfl, rfl⟩
theorem Rev_nil (i : Int) (w : World) : Calls Try.prog 11 #[.pointer none, .int .i64 i] w fun e w' => e = .returned (.tuple #[.int .i64 0, .bool false]) ∧ w' = w := by
  go_enter Try.func11, Try.ntmps11
  go_wp2
  exact bodyPost_ret (v := .tuple #[.int .i64 0, .bool false]) (by simp [results, Try.results11, go_sem]) rfl ⟨rfl, rfl⟩
/-- the look-up, whatever the map -/
theorem IsPn.look {B c : Nat} {mb : Option Nat} {m : Int} {l : List Pin} {w : World} (h : IsPn B c mb m l w) {i : Int} (hi : (Lit.int .i64 i).wf = true) : (Instr.lookup 46 (.map mb) (.int .i64 i) true).run Try.prog w = .ok (.tuple #[.agg #[.int .i64 (rv l i), .int .i64 (ut l i)], .bool (hb l i)]) w := by
  rcases h.mp with ⟨rfl, rfl⟩ | ⟨b, rfl, hB, hS⟩
  · have e : att [] i = none := att_nil i
    unfold rv ut hb
    rw [e]
    exact look_none w hi
  · exact hS.look hi
set_option maxRecDepth 100000 in
set_option maxHeartbeats 1000000 in
theorem Rev_c {B c : Nat} {mb : Option Nat} {m : Int} {l : List Pin} {w : World} (h : IsPn B c mb m l w) {i : Int} (hi : (Lit.int .i64 i).wf = true) : Calls Try.prog 11 #[.pointer (some ⟨c, 0, none⟩), .int .i64 i] w fun e w' => e = .returned (.tuple #[.int .i64 (rv l i), .bool (hb l i)]) ∧ Below w.heap.size w w' := by
  obtain ⟨c0, c1, c2⟩ := cells3 h.ob
  have hl := h.look hi
  obtain ⟨W, hW, hk, hbw⟩ := new2 w (.int .i64 (rv l i)) (.int .i64 (ut l i)) 52
  obtain ⟨d0, d1⟩ := cells2 hk
  have HW := Lib.hid hW
  have HB := Lib.hid hbw
  clear h hW hk hbw
  generalize rv l i = r at *
  generalize ut l i = u at *
  generalize hb l i = o at *
  go_enter Try.func11, Try.ntmps11
  go_upto_region 4 with (fail)
  rw [← HW.out]
  go_wp2
  exact bodyPost_ret (v := .tuple #[.int .i64 r, .bool o]) (by simp [results, Try.results11, go_sem]) rfl ⟨rfl, HB.out⟩
def DrQ (B c : Nat) (mb : Option Nat) (m : Int) (l' : List Pin) (v : Value) (w : World) (e : Ending) (w' : World) : Prop := e = .returned v ∧ IsPn B c mb m l' w' ∧ Ch c mb w w'
theorem dropL_none {l : List Pin} {i : Int} (h : hb l i = false) : dropL l i = l := by
  unfold dropL
  cases e : att l i with
  | none => rfl
  | some x => unfold hb at h; rw [e] at h; cases h
theorem keepL_none {l : List Pin} {i u : Int} (h : hb l i = false) : keepL l i u = l := by
  unfold keepL
  cases e : att l i with
  | none => rfl
  | some x => unfold hb at h; rw [e] at h; cases h
theorem IsPn.held {B c : Nat} {mb : Option Nat} {m : Int} {l : List Pin} {W : World} (h : IsPn B c mb m l W) {i : Int} (hh : hb l i = true) : ∃ b, mb = some b ∧ B ≤ b ∧ SetP b l W := by
  rcases h.mp with ⟨rfl, rfl⟩ | h
  · unfold hb at hh; rw [att_nil] at hh; cases hh
  · exact h
set_option maxRecDepth 100000 in
set_option maxHeartbeats 1000000 in
theorem Drop_c {B c : Nat} {mb : Option Nat} {m : Int} {l : List Pin} {w : World} (h : IsPn B c mb m l w) {i : Int} (hi : (Lit.int .i64 i).wf = true) : Calls Try.prog 18 #[.pointer (some ⟨c, 0, none⟩), .int .i64 i] w (DrQ B c mb m (dropL l i) (.bool (hb l i)) w) := by
  have HR := Lib.hid (Rev_c h hi)
  cases hh : hb l i with
  | false =>
    rw [hh] at HR
    rw [dropL_none hh]
    have H := Lib.hid h
    clear h hh
    generalize rv l i = r at *
    go_enter Try.func18, Try.ntmps18
    go_wp2_with fail
    refine HR.out.mono ?_
    rintro e w1 ⟨rfl, hb1⟩
    have HB := Lib.hid hb1
    clear hb1
    go_wp2
    go_ret
    exact ⟨rfl, H.out.go HB.out, Ch.of HB.out⟩
  | true =>
    rw [hh] at HR
    obtain ⟨b, rfl, hB, hS⟩ := h.held hh
    have H := Lib.hid h
    clear h hh
    generalize rv l i = r at *
    go_enter Try.func18, Try.ntmps18
    go_wp2_with fail
    refine HR.out.mono ?_
    rintro e w1 ⟨rfl, hb1⟩
    have H1 := H.out.go hb1
    obtain ⟨c0, c1, c2⟩ := cells3 H1.ob
    have hS1 : SetP b l w1 := hS.keep (hb1.block _ hS.lt)
    have hD := fun ty => hS1.drop (l' := dropL l i) hi (att_drop l i) ty
    obtain ⟨W2, hr, hS2, hg2⟩ := hD 0
    have HB := Lib.hid hb1
    have HH1 := Lib.hid H1
    have HS2 := Lib.hid hS2
    have HG2 := Lib.hid hg2
    clear hb1 H1 hS1 hS hS2 hg2 hD HR H
    go_wp2
    go_ret
    refine ⟨rfl, ⟨?_, HH1.out.ne, .inr ⟨b, rfl, hB, HS2.out⟩⟩, (Ch.of HB.out).tr (Ch.grown HG2.out)⟩
    rw [dropL_len, HG2.out.block c HH1.out.lt (fun e => HH1.out.ne e.symm)]
    exact HH1.out.ob
theorem Drop_nil (i : Int) (w : World) : Calls Try.prog 18 #[.pointer none, .int .i64 i] w fun e w' => e = .returned (.bool false) ∧ w' = w := by
  go_enter Try.func18, Try.ntmps18
  go_wp2_with fail
  refine (Rev_nil i w).mono ?_
  rintro e w1 ⟨rfl, rfl⟩
  go_wp2
  go_ret
  exact ⟨rfl, rfl⟩
end Go.Proofs.Ytjjnjankjbiigaa.Pn
