/- Contracts of package reply's readBack, of the question that right asks of a field, and of the library's IndexFunc and ContainsFunc at it: for fields of at most two million bytes. -/
import Derived.Test.YtolfenachbbjdaaDoorRpA
namespace Go.Proofs.YtolfenachbbjdaaDoor.Rp
open Go.RowKit Ch Hd
set_option linter.unusedSimpArgs false
set_option linter.unusedVariables false

abbrev FB := ByteArray × ByteArray
def encF (f : FB) : ByteArray := f.1 ++ ⟨#[58]⟩ ++ f.2
def rbB (f : FB) : Bool := decide (ofL (encF f).data.toList = some (f.1.data.toList, f.2.data.toList))
def clL : List UInt8 := [99, 111, 110, 116, 101, 110, 116, 45, 108, 101, 110, 103, 116, 104]
def pB (f : FB) : Bool := !rbB f || decide (lowL f.1.data.toList = clL)
def smallF (f : FB) : Prop := f.1.size ≤ 2000000 ∧ f.2.size ≤ 2000000
theorem encF_sz {f : FB} (h : smallF f) : (encF f).size ≤ 5000000 := by
  obtain ⟨h1, h2⟩ := h
  unfold encF
  rw [ByteArray.size_append, ByteArray.size_append]
  have : (ByteArray.mk #[58]).size = 1 := rfl
  omega
theorem cl_low : lowL [67, 111, 110, 116, 101, 110, 116, 45, 76, 101, 110, 103, 116, 104] = clL := by decide +kernel
theorem eqHead (a b c d : ByteArray) (W : World) : (binOp .eql 61 (.agg #[.string a, .string b]) (.agg #[.string c, .string d])).run Tryd.prog W = .ok (.bool (decide (a.data.toList = c.data.toList ∧ b.data.toList = d.data.toList))) W := by
  have u9 := Tryd.underlying9
  have hS : Tryd.prog.underlying 61 = some (.struct (Tryd.prog.fieldsOf 61)) := by kernel_rfl
  have hp : Tryd.prog.stoodInHeld 61 = false := by kernel_rfl
  rw [run_eql_struct, show (10000 : Nat) = 9999 + 1 from rfl, run_equalIn_agg W 9999 61 _ _ hS hp]
  simp only [Program.fieldsOf, Tryd.underlying61]
  go_simp
  simp only [Lib.toList_data]
  by_cases h1 : a.data = c.data <;> by_cases h2 : b.data = d.data <;> simp [h1, h2]
theorem cell2 {w : World} {g : Nat} {a b : Value} {T : TypeId} (h : w.heap[g]? = some (.cells #[a, b] T (0, 0))) : w.cell? ⟨g, 0, none⟩ = some a ∧ w.cell? ⟨g, 1, none⟩ = some b := ⟨cell_of_row _ _ 0 _ _ _ h, cell_of_row _ _ 1 _ _ _ h⟩
theorem in2 {w W : World} {a b : Value} {T : TypeId} (hb : Below (w.alloc (.cells #[a, b] T)).heap.size (w.alloc (.cells #[a, b] T)) W) : W.cell? ⟨w.heap.size, 0, none⟩ = some a ∧ W.cell? ⟨w.heap.size, 1, none⟩ = some b ∧ w.heap.size < W.heap.size ∧ Below w.heap.size w W := by
  have hk := heap_alloc_new w (.cells #[a, b] T)
  have hl : w.heap.size < (w.alloc (.cells #[a, b] T)).heap.size := by rw [World.size_alloc]; exact Nat.lt_succ_self _
  refine ⟨(hb.cell (p := ⟨w.heap.size, 0, none⟩) hl).trans (cell2 hk).1, (hb.cell (p := ⟨w.heap.size, 1, none⟩) hl).trans (cell2 hk).2, Nat.lt_of_lt_of_le hl hb.size, ((Below.refl _ _).alloc (Nat.le_refl _) _).trans (hb.mono (Nat.le_of_lt hl))⟩
set_option maxRecDepth 100000 in
set_option maxHeartbeats 2000000 in
theorem rb_no (x y : ByteArray) (w : World) (HO : Hid (∀ W, Calls Tryd.prog 47 #[.string (x ++ ⟨#[58]⟩ ++ y)] W fun e w' => e = .returned (.tuple #[.agg #[.string ⟨#[]⟩, .string ⟨#[]⟩], .bool false]) ∧ Below W.heap.size W w')) (hx : x.size ≤ 2000000) (hy : y.size ≤ 2000000) :
    Calls Tryd.prog 38 #[.agg #[.string x, .string y]] w fun e w' => e = .returned (.bool false) ∧ Below w.heap.size w w' := by
  go_enter Tryd.func38, Tryd.ntmps38
  go_wp2_with fail
  refine (HO.out _).mono ?_
  rintro e w1 ⟨rfl, hb1⟩
  obtain ⟨c0, c1, hl, hB⟩ := in2 hb1
  have HB := Lib.hid hB
  clear hb1 hB
  go_wp2
  go_ret
  exact ⟨rfl, HB.out.alloc HB.out.size _⟩
set_option maxRecDepth 100000 in
set_option maxHeartbeats 2000000 in
theorem rb_yes (x y a b : ByteArray) (v : Bool) (w : World) (HO : Hid (∀ W, Calls Tryd.prog 47 #[.string (x ++ ⟨#[58]⟩ ++ y)] W fun e w' => e = .returned (.tuple #[.agg #[.string a, .string b], .bool true]) ∧ Below W.heap.size W w'))
    (hE : ∀ W, (binOp .eql 61 (.agg #[.string a, .string b]) (.agg #[.string x, .string y])).run Tryd.prog W = .ok (.bool v) W) (hx : x.size ≤ 2000000) (hy : y.size ≤ 2000000) :
    Calls Tryd.prog 38 #[.agg #[.string x, .string y]] w fun e w' => e = .returned (.bool v) ∧ Below w.heap.size w w' := by
  go_enter Tryd.func38, Tryd.ntmps38
  go_wp2_with fail
  refine (HO.out _).mono ?_
  rintro e w1 ⟨rfl, hb1⟩
  obtain ⟨c0, c1, hl, hB⟩ := in2 hb1
  have HB := Lib.hid hB
  have hn : w.heap.size ≠ w1.heap.size := by omega
  clear hb1 hB
  go_wp2
  go_ret
  exact ⟨rfl, HB.out.alloc HB.out.size _⟩
theorem readBack_c (f : FB) (w : World) (h : smallF f) : Calls Tryd.prog 38 #[.agg #[.string f.1, .string f.2]] w fun e w' => e = .returned (.bool (rbB f)) ∧ Below w.heap.size w w' := by
  have HO := fun W => OfField_c (encF f) W (encF_sz h)
  cases hq : ofL (encF f).data.toList with
  | none =>
    simp only [ofV_no hq] at HO
    have e : rbB f = false := by unfold rbB; rw [hq]; simp
    rw [e]
    exact rb_no f.1 f.2 w (Lib.hid HO) h.1 h.2
  | some z =>
    simp only [ofV_yes hq] at HO
    have e : rbB f = decide ((mkS z.1).data.toList = f.1.data.toList ∧ (mkS z.2).data.toList = f.2.data.toList) := by
      unfold rbB; rw [hq]
      exact decide_eq_decide.2 ⟨fun hh => by injection hh with hh; rw [hh]; exact ⟨rfl, rfl⟩, fun hh => by obtain ⟨z1, z2⟩ := z; have h1 : z1 = _ := hh.1; have h2 : z2 = _ := hh.2; rw [h1, h2]⟩
    rw [e]
    exact rb_yes f.1 f.2 (mkS z.1) (mkS z.2) _ w (Lib.hid HO) (fun W => eqHead _ _ _ _ W) h.1 h.2
set_option maxRecDepth 100000 in
set_option maxHeartbeats 2000000 in
theorem clo_no (x y : ByteArray) (w : World) (HR : Hid (∀ W, Calls Tryd.prog 38 #[.agg #[.string x, .string y]] W fun e w' => e = .returned (.bool false) ∧ Below W.heap.size W w')) :
    Calls Tryd.prog 37 #[.agg #[.string x, .string y]] w fun e w' => e = .returned (.bool true) ∧ Below w.heap.size w w' := by
  go_enter Tryd.func37, Tryd.ntmps37
  go_wp2_with fail
  refine (HR.out _).mono ?_
  rintro e w1 ⟨rfl, hb1⟩
  obtain ⟨c0, c1, hl, hB⟩ := in2 hb1
  have HB := Lib.hid hB
  clear hb1 hB
  go_wp2
  go_ret
  exact ⟨rfl, HB.out⟩
set_option maxRecDepth 100000 in
set_option maxHeartbeats 2000000 in
theorem clo_yes (x y : ByteArray) (v : Bool) (w : World) (HR : Hid (∀ W, Calls Tryd.prog 38 #[.agg #[.string x, .string y]] W fun e w' => e = .returned (.bool true) ∧ Below W.heap.size W w'))
    (HS : Hid (∀ W, Calls Tryd.prog 39 #[.string x, .string ⟨#[67, 111, 110, 116, 101, 110, 116, 45, 76, 101, 110, 103, 116, 104]⟩] W fun e w' => e = .returned (.bool v) ∧ Below W.heap.size W w')) :
    Calls Tryd.prog 37 #[.agg #[.string x, .string y]] w fun e w' => e = .returned (.bool v) ∧ Below w.heap.size w w' := by
  go_enter Tryd.func37, Tryd.ntmps37
  go_wp2_with fail
  refine (HR.out _).mono ?_
  rintro e w1 ⟨rfl, hb1⟩
  obtain ⟨c0, c1, hl, hB⟩ := in2 hb1
  have HB := Lib.hid hB
  clear hb1 hB
  go_wp2_with fail
  refine (HS.out _).mono ?_
  rintro e w2 ⟨rfl, hb2⟩
  have HB2 := Lib.hid (HB.out.trans (hb2.mono HB.out.size))
  clear hb2
  go_wp2
  go_ret
  exact ⟨rfl, HB2.out⟩
theorem clo_c (f : FB) (w : World) (h : smallF f) : Calls Tryd.prog 37 #[.agg #[.string f.1, .string f.2]] w fun e w' => e = .returned (.bool (pB f)) ∧ Below w.heap.size w w' := by
  have HR := fun W => readBack_c f W h
  cases hq : rbB f with
  | false =>
    rw [hq] at HR
    have e : pB f = true := by unfold pB; rw [hq]; rfl
    rw [e]
    exact clo_no f.1 f.2 w (Lib.hid HR)
  | true =>
    rw [hq] at HR
    have e : pB f = decide (lowL f.1.data.toList = clL) := by unfold pB; rw [hq]; simp
    rw [e]
    have HS := fun W => same_c f.1 ⟨#[67, 111, 110, 116, 101, 110, 116, 45, 76, 101, 110, 103, 116, 104]⟩ W (by have := h.1; omega) (by show (14 : Nat) ≤ _; omega)
    have e2 : ∀ l : List UInt8, decide (l = lowL (ByteArray.mk #[67, 111, 110, 116, 101, 110, 116, 45, 76, 101, 110, 103, 116, 104]).data.toList) = decide (l = clL) := fun l => by
      show decide (l = lowL [67, 111, 110, 116, 101, 110, 116, 45, 76, 101, 110, 103, 116, 104]) = _
      rw [cl_low]
    simp only [e2] at HS
    exact clo_yes f.1 f.2 _ w (Lib.hid HR) (Lib.hid HS)
/-- a slice of fields that can be read -/
def RdF (v : Value) (fs : List FB) (w : World) : Prop := ∃ ao cap, v = .slice ao fs.length cap ∧ (0 < fs.length → ∃ g off, ao = some ⟨g, off, none⟩ ∧ g < w.heap.size ∧ ∀ i (hi : i < fs.length), w.cell? ⟨g, off + i * 2, none⟩ = some (.string fs[i].1) ∧ w.cell? ⟨g, off + i * 2 + 1, none⟩ = some (.string fs[i].2))
theorem RdF.go {v : Value} {fs : List FB} {w W : World} (h : RdF v fs w) (hb : Below w.heap.size w W) : RdF v fs W := by
  obtain ⟨ao, cap, rfl, h⟩ := h
  refine ⟨ao, cap, rfl, fun h0 => ?_⟩
  obtain ⟨g, off, rfl, hg, hc⟩ := h h0
  exact ⟨g, off, rfl, Nat.lt_of_lt_of_le hg hb.size, fun i hi => ⟨(hb.cell (p := ⟨g, off + i * 2, none⟩) hg).trans (hc i hi).1, (hb.cell (p := ⟨g, off + i * 2 + 1, none⟩) hg).trans (hc i hi).2⟩⟩
theorem any_take {fs : List FB} {j : Nat} (hj : j < fs.length) (h : ∀ k (hk : k < fs.length), k < j → pB fs[k] = false) (hp : pB fs[j] = false) : ∀ k (hk : k < fs.length), k < j + 1 → pB fs[k] = false := fun k hk hlt => by
  rcases Nat.lt_succ_iff_lt_or_eq.1 hlt with g | g
  · exact h k hk g
  · subst g; exact hp
set_option maxRecDepth 100000 in
set_option maxHeartbeats 4000000 in
theorem idx_c (v : Value) (fs : List FB) (w : World) (hR : RdF v fs w) (hm : fs.length ≤ 1000000) (hs : ∀ f ∈ fs, smallF f) :
    Calls Tryd.prog 51 #[v, .func (.func 37) #[] #[]] w fun e w' => ∃ r : Int, e = .returned (.int .i64 r) ∧ decide (0 ≤ r) = fs.any pB ∧ Below w.heap.size w w' := by
  have HR := Lib.hid hR
  have HS := Lib.hid hs
  obtain ⟨ao, cap, rfl, hr⟩ := hR
  clear hr hs
  go_enter Tryd.func51, Tryd.ntmps51
  go_wp2
  go_loopw [8] (fun i wr => ∃ j : Nat, j ≤ fs.length ∧ i = .int .i64 j ∧ Hid (Below w.heap.size w wr) ∧ Hid (∀ k (hk : k < fs.length), k < j → pB fs[k] = false)) (fun i _ => fs.length - (intOf i).toNat)
  case atStart => exact ⟨0, by omega, rfl, Lib.hid (Below.refl _ _), Lib.hid (fun k hk h => absurd h (Nat.not_lt_zero _))⟩
  case round =>
    obtain ⟨j, hj, rfl, HB, HN⟩ := hrel
    have HRW := Lib.hid (HR.out.go HB.out)
    by_cases hlt : j < fs.length
    · obtain ⟨ao', cap', e, hc⟩ := HRW.out
      injection e with ea eb ec
      subst ea ec
      obtain ⟨g, off, rfl, hg, hat⟩ := hc (by omega)
      obtain ⟨k0, k1⟩ := hat j hlt
      have hj0 : (0 : Int) ≤ (j : Int) := by omega
      have hjl : (j : Int) < (fs.length : Int) := by omega
      have HC := Lib.hid (fun W => clo_c fs[j] W (HS.out _ (List.getElem_mem hlt)))
      clear hat hc
      cases hp : pB fs[j] with
      | true =>
        rw [hp] at HC
        have HA : Hid (fs.any pB = true) := by show _ = _; rw [List.any_eq_true]; exact ⟨_, List.getElem_mem hlt, hp⟩
        clear hp
        revert k0 k1 HC
        generalize fs[j].1 = x
        generalize fs[j].2 = y
        intro k0 k1 HC
        go_wp2_with fail
        refine (HC.out _).mono ?_
        rintro e w2 ⟨rfl, hb2⟩
        have HB2 := Lib.hid (HB.out.trans (hb2.mono HB.out.size))
        clear hb2
        go_wp2
        go_ret
        exact ⟨_, rfl, by rw [HA.out]; exact decide_eq_true hj0, HB2.out⟩
      | false =>
        rw [hp] at HC
        have HN2 := Lib.hid (any_take hlt HN.out hp)
        clear hp HN
        revert k0 k1 HC
        generalize fs[j].1 = x
        generalize fs[j].2 = y
        intro k0 k1 HC
        go_wp2_with fail
        refine (HC.out _).mono ?_
        rintro e w2 ⟨rfl, hb2⟩
        have HB2 := Lib.hid (HB.out.trans (hb2.mono HB.out.size))
        clear hb2
        go_wp2
        go_roundw
        case rel => exact ⟨j + 1, by omega, by go_num, HB2, HN2⟩
        case measure => simp [intOf]; omega
    · have HA : Hid (fs.any pB = false) := by
        show _ = _
        rw [List.any_eq_false]
        intro f hf
        obtain ⟨k, hk, rfl⟩ := List.mem_iff_getElem.1 hf
        rw [HN.out k hk (by omega)]; simp
      go_wp2
      go_ret
      exact ⟨_, rfl, by rw [HA.out]; rfl, HB.out⟩
set_option maxRecDepth 100000 in
set_option maxHeartbeats 2000000 in
theorem has_c (v : Value) (fs : List FB) (w : World) (hR : RdF v fs w) (hm : fs.length ≤ 1000000) (hs : ∀ f ∈ fs, smallF f) :
    Calls Tryd.prog 36 #[v, .func (.func 37) #[] #[]] w fun e w' => e = .returned (.bool (fs.any pB)) ∧ Below w.heap.size w w' := by
  have HI := Lib.hid (idx_c v fs w hR hm hs)
  obtain ⟨ao, cap, rfl, _⟩ := hR
  clear hs
  generalize fs.any pB = q at HI ⊢
  go_enter Tryd.func36, Tryd.ntmps36
  go_wp2_with fail
  refine HI.out.mono ?_
  rintro e w1 ⟨r, rfl, hr, hb1⟩
  have HQ := Lib.hid hr
  have HB := Lib.hid hb1
  clear hr hb1
  go_wp2
  go_ret
  exact ⟨by rw [← HQ.out]; rfl, HB.out⟩
end Go.Proofs.YtolfenachbbjdaaDoor.Rp
