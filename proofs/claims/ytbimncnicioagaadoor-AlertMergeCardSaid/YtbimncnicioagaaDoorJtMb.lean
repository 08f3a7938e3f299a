/- Contracts and plain mathematics of some packages' functions, laid together; conditions as each one says. -/
import Derived.Test.YtbimncnicioagaaDoorJtMa
import Derived.Test.YtbimncnicioagaaDoorNuShelf
import Derived.Lib.FrozenHead2
import Derived.Test.YtbimncnicioagaaDoorUtTabs
import Derived.LaidEql
import Derived.Stop.Asserts
import Derived.RowKitTokens
import Derived.RegionTactic
import Derived.ChangeAlike
namespace Go.Proofs.YtbimncnicioagaaDoor.Jt
open Go.RowKit
set_option linter.unusedSimpArgs false
set_option linter.unusedVariables false

/-- a builder of the call's own at block b, with these bytes; all that it owns lies at b or above -/
def Bld (b : Nat) (l : List UInt8) (w : World) : Prop := Lib.IsBuilderF 70 5 b b (Lib.byteCells l) w
theorem bat_below {T e : TypeId} {B b : Nat} {p : Value} {bs : List Value} {w w' : World} (h : Lib.BuilderAtF T e B b p bs w) (hb : Below w.heap.size w w') : Lib.BuilderAtF T e B b p bs w' := by
  have hlt := h.lt
  obtain ⟨hB, v, hbk, hown, hne⟩ := h
  exact ⟨hB, v, (hb.block b hlt).trans hbk, hown.kept (row := none) ⟨hb.os, hb.tape, hb.output, hb.size, fun k hk _ => hb.block k hk⟩ (by cases hv : v.ownBlock <;> simp), hne⟩
theorem Bld.go {b : Nat} {l : List UInt8} {w w' : World} (h : Bld b l w) (hb : Below w.heap.size w w') : Bld b l w' := h.elim (fun x => .inl (bat_below x hb)) (fun x => .inr (bat_below x hb))
theorem Bld.lt {b : Nat} {l : List UInt8} {w : World} (h : Bld b l w) : b < w.heap.size := h.elim (fun x => x.lt) (fun x => x.lt)
theorem Bld.new (w : World) : Bld w.heap.size [] (w.alloc (.cells #[.pointer none, .slice none 0 0] 70)) := by
  refine .inl ⟨Nat.le_refl _, .slice none 0 0, heap_alloc_new _ _, ⟨rfl, .inl ⟨rfl, rfl⟩⟩, by simp [Value.ownBlock]⟩
set_option maxRecDepth 100000 in
set_option maxHeartbeats 2000000 in
theorem chk_used (b : Nat) (w : World) (h0 : w.cell? ⟨b, 0, none⟩ = some (.pointer (some ⟨b, 0, none⟩))) :
    Calls Tryd.prog 51 #[.pointer (some ⟨b, 0, none⟩)] w fun e w' => e = .returned (.tuple #[]) ∧ w' = w := by
  obtain ⟨j, hj, _⟩ := Option.map_eq_some_iff.1 Tryd.Builder_Extra_169.sizeBuilder
  go_enter Tryd.func51, Tryd.ntmps51
  go_wp2
  rw [Lib.run_neq_ptr_same w _ Tryd.underlying67 hj]
  go_wp2
  go_end0
  exact ⟨rfl, rfl⟩
set_option maxRecDepth 100000 in
set_option maxHeartbeats 2000000 in
theorem chk_fresh (b : Nat) (w : World) (h0 : w.cell? ⟨b, 0, none⟩ = some (.pointer none)) (hsh : w.shape? b = some (70, 2)) (hfz : w.frozen? ⟨b, 0, none⟩ = false) :
    Calls Tryd.prog 51 #[.pointer (some ⟨b, 0, none⟩)] w fun e w' => e = .returned (.tuple #[]) ∧ w' = w.setCell ⟨b, 0, none⟩ (.pointer (some ⟨b, 0, none⟩)) := by
  obtain ⟨j, hj, hjs⟩ := Option.map_eq_some_iff.1 Tryd.Builder_Extra_169.sizeBuilder
  go_enter Tryd.func51, Tryd.ntmps51
  go_wp2
  rw [Lib.run_to_unsafe w ⟨b, 0, none⟩ Tryd.underlying67 Tryd.underlying102 hj (by rw [hjs]; decide) hsh (Nat.zero_lt_succ 1)]
  simp only [Result.andThen]
  rw [Oper.upon_value]
  go_wp2
  rw [run_callFunc_extern Tryd.func67 (by kernel_rfl) (by kernel_rfl) (by kernel_rfl) (e := Extern.AbiNoEscape.same) (by kernel_rfl)]
  rw [Lib.run_noEscape]
  simp only [Result.andThen]
  rw [Oper.upon_value]
  go_wp2
  rw [Lib.run_from_unsafe w ⟨b, 0, none⟩ Tryd.underlying102 Tryd.underlying67 hj hsh Tryd.Builder_Extra_169.liesBuilder]
  simp only [Result.andThen]
  rw [Oper.upon_value]
  go_wp2
  go_end0
  exact ⟨rfl, rfl⟩
theorem chk_c (b : Nat) (bs : List Value) (w : World) (h : Lib.IsBuilderF 70 5 b b bs w) :
    Calls Tryd.prog 51 #[.pointer (some ⟨b, 0, none⟩)] w fun e w' => e = .returned (.tuple #[]) ∧ Lib.BuilderAtF 70 5 b b (.pointer (some ⟨b, 0, none⟩)) bs w' ∧ Below b w w' := by
  rcases h with h | h
  · refine (chk_fresh b w h.cell0 h.shape h.frozen0).mono ?_
    rintro e w' ⟨rfl, rfl⟩
    exact ⟨rfl, h.used _, (Below.refl b w).setCell (p := ⟨b, 0, none⟩) h.1 _⟩
  · refine (chk_used b w h.cell0).mono ?_
    rintro e w' ⟨rfl, rfl⟩
    exact ⟨rfl, h, Below.refl b _⟩
theorem strCells_eq (s : ByteArray) : Lib.strCells s = Lib.byteCells s.data.toList := by
  unfold Lib.strCells Lib.byteCells; simp
theorem byteCells_app (a b : List UInt8) : Lib.byteCells a ++ Lib.byteCells b = Lib.byteCells (a ++ b) := by unfold Lib.byteCells; simp
theorem byteCells_len (a : List UInt8) : (Lib.byteCells a).length = a.length := by unfold Lib.byteCells; simp
set_option maxRecDepth 100000 in
set_option maxHeartbeats 4000000 in
theorem wstr_c (b : Nat) (l : List UInt8) (s : ByteArray) (w : World) (h : Bld b l w) (hlen : l.length + s.size ≤ 1000000) :
    Calls Tryd.prog 38 #[.pointer (some ⟨b, 0, none⟩), .string s] w fun e w' => e = .returned (.tuple #[.int .i64 s.size, .nilIface]) ∧ Bld b (l ++ s.data.toList) w' ∧ Below b w w' := by
  have hlb := h.lt
  have HC := Lib.hid (chk_c b _ w h)
  obtain ⟨i0, hi, hz0, hz1, hz2⟩ := info_parts Tryd.Builder_Extra_169.infoByte
  have hbl := byteCells_len l
  have HBL := Lib.hid hbl
  clear hbl h
  go_enter Tryd.func38, Tryd.ntmps38
  go_wp2_with fail
  refine HC.out.mono ?_
  rintro e w1 ⟨rfl, h1, hb1⟩
  obtain ⟨hB, v, hbk, hown, hne⟩ := h1
  have c0 : w1.cell? ⟨b, 0, none⟩ = some (.pointer (some ⟨b, 0, none⟩)) := by rw [Lib.cell_of_heap hbk]; rfl
  have c1 : w1.cell? ⟨b, 1, none⟩ = some v := by rw [Lib.cell_of_heap hbk]; rfl
  have HBK := Lib.hid hbk
  have HNE := Lib.hid hne
  have HB1 := Lib.hid hb1
  clear hbk hne hb1
  go_wp2_with (at_builtin; refine Lib.wpList_append_own_stringF _ rfl _ _ 68 9 rfl b 5 i0 Tryd.underlying68 Tryd.underlying9 hi hz0 hz1 hz2 _ _ _ rfl hown s rfl ?c3 ?c4 ?c5 ?_)
  case c3 => rw [HBL.out]; unfold maxLen; omega
  case c4 => rw [HBL.out]; omega
  case c5 => have := HB1.out.size; omega
  intro v' w2 hown' hgrow _
  have hlt : b < w1.heap.size := by have := HB1.out.size; omega
  have hb2 : w2.heap[b]? = some (.cells #[.pointer (some ⟨b, 0, none⟩), v] 70 (0, 0)) := by
    rw [hgrow.block b hlt (fun e => HNE.out e.symm)]
    exact HBK.out
  have d0 : w2.cell? ⟨b, 0, none⟩ = some (.pointer (some ⟨b, 0, none⟩)) := by rw [Lib.cell_of_heap hb2]; rfl
  have d1 : w2.cell? ⟨b, 1, none⟩ = some v := by rw [Lib.cell_of_heap hb2]; rfl
  have f1 : w2.frozen? ⟨b, 1, none⟩ = false := Lib.frozen_of_heap hb2 1
  obtain ⟨ao, n', cap, rfl⟩ : ∃ ao n' cap, v' = .slice ao n' cap := by
    rcases hown'.2 with ⟨hv, _⟩ | ⟨g, cap, cur, fz, hv, _⟩
    · exact ⟨_, _, _, hv⟩
    · exact ⟨_, _, _, hv⟩
  have HOWN := Lib.hid hown
  have HOWN2 := Lib.hid hown'
  have HG := Lib.hid hgrow
  have HB2 := Lib.hid hb2
  clear hown hown' hgrow hb2
  go_wp2
  go_ret2
  refine ⟨rfl, .inr ?_, ?_⟩
  · have h2 := HOWN2.out
    rw [strCells_eq, byteCells_app] at h2
    exact Lib.BuilderAtF.put (T := 70) (e := 5) hB HB2.out (bs' := Lib.byteCells (l ++ s.data.toList)) (by rw [byteCells_len, List.length_append, ← size_l, ← HBL.out]; exact h2) (by decide)
  · exact (HB1.out.grown HG.out (by have := HB1.out.size; omega) (fun k hk => (HOWN.out.lt k hk).1)).setCell (p := ⟨b, 1, none⟩) hB _
theorem str_c (b : Nat) (l : List UInt8) (w : World) (h : Bld b l w) : Calls Tryd.prog 40 #[.pointer (some ⟨b, 0, none⟩)] w fun e w' => e = .returned (.string (mkS l)) ∧ Below b w w' :=
  (show Calls Tryd.prog 40 #[.pointer (some ⟨b, 0, none⟩)] w fun e w' => e = .returned (.string ⟨l.toArray⟩) ∧ (Lib.IsBuilderF 70 5 b b (Lib.byteCells l) w' ∧ Below b w w' ∧ Lib.OthersKept 5 (some b) w w') from Any.Builder_String_any_k Tryd.lays169 Tryd.Builder_Extra_169 b b l w h (Nat.le_of_lt h.lt)).mono fun e w' hh => ⟨hh.1, hh.2.2.1⟩
end Go.Proofs.YtbimncnicioagaaDoor.Jt
namespace Go.Proofs.YtbimncnicioagaaDoor.Jt
open Go.RowKit
set_option linter.unusedSimpArgs false
set_option linter.unusedVariables false

theorem hex_len {l : List UInt8} {k : Nat} (h : 0 ≤ hexA l k) : k + 4 ≤ l.length := by
  unfold hexA at h
  by_cases g : l.length < k + 4
  · rw [if_pos g] at h; omega
  · omega
theorem back_le (l : List UInt8) (k : Nat) : (backL l k).2 ≠ 0 → k + (backL l k).2 ≤ l.length := by
  unfold backL
  intro h
  repeat' split at h
  all_goals first
    | exact absurd rfl h
    | skip
  · rename_i h1 h2
    rw [if_neg h1, if_pos h2]; show k + 2 ≤ _; omega
  · rename_i h1 h2 h3 h4
    rw [if_neg h1, if_neg h2, if_neg h3, if_pos h4]
    have := hex_len (l := l) (k := k + 8) (by omega)
    show k + 12 ≤ _; omega
  · rename_i h1 h2 h3 h4 h5
    rw [if_neg h1, if_neg h2, if_neg h3, if_neg h4, if_pos h5]
    have := hex_len (l := l) (k := k + 2) (by omega)
    show k + 6 ≤ _; omega
theorem putI_len4 (v : Int) : (bl (Ut.putI v)).length ≤ 4 := by rw [bl_len]; exact (Ut.putI_len v).2
theorem back_len (l : List UInt8) (k : Nat) : (backL l k).1.length ≤ 4 * (backL l k).2 := by
  unfold backL
  repeat' split
  all_goals first
    | (simp; done)
    | (show (bl _).length ≤ _; have := putI_len4 (65536 + (hexA l (k + 2) - 55296) * 1024 + hexA l (k + 8) - 56320); omega)
    | (show (bl _).length ≤ _; have := putI_len4 (hexA l (k + 2)); omega)
theorem piece_le {l : List UInt8} {k : Nat} (hk : k ≤ l.length) (h : (pieceL l k).2 ≠ 0) : k + (pieceL l k).2 ≤ l.length := by
  unfold pieceL at h ⊢
  by_cases h1 : at0 l k = 92
  · rw [if_pos h1] at h ⊢; exact back_le l k h
  · rw [if_neg h1] at h ⊢
    by_cases h2 : k < endP plnB l k ∧ vldB (cutL l k (endP plnB l k)) = true
    · rw [if_pos h2]; have := endP_le (p := plnB) hk; show k + (endP plnB l k - k) ≤ _; omega
    · rw [if_neg h2] at h; exact absurd rfl h
theorem piece_len {l : List UInt8} {k : Nat} (hk : k ≤ l.length) : (pieceL l k).1.length ≤ 4 * (pieceL l k).2 := by
  unfold pieceL
  by_cases h1 : at0 l k = 92
  · rw [if_pos h1]; exact back_len l k
  · rw [if_neg h1]
    by_cases h2 : k < endP plnB l k ∧ vldB (cutL l k (endP plnB l k)) = true
    · rw [if_pos h2]; show (cutL l k (endP plnB l k)).length ≤ 4 * (endP plnB l k - k); rw [cutL_len (endP_le hk)]; omega
    · rw [if_neg h2]; simp
theorem pcp_out0 {k : Nat} {r : List UInt8 × Nat} {w : World} {e : Ending} {w' : World} (h : PcP k r w e w') (hz : r.2 = 0) : (∃ t j, e = tup3 t j false) ∧ Below w.heap.size w w' := by unfold PcP at h; rw [if_pos hz] at h; exact h
theorem pcp_out1 {k : Nat} {r : List UInt8 × Nat} {w : World} {e : Ending} {w' : World} (h : PcP k r w e w') (hz : r.2 ≠ 0) : e = tup3 (mkS r.1) ((k : Int) + (r.2 : Nat)) true ∧ Below w.heap.size w w' := by unfold PcP at h; rw [if_neg hz] at h; exact h
end Go.Proofs.YtbimncnicioagaaDoor.Jt
namespace Go.Proofs.YtbimncnicioagaaDoor.Jt
open Go.RowKit
set_option linter.unusedSimpArgs false
set_option linter.unusedVariables false

def tkV (t : Tok) : Value := tokV t.k t.a t.b (mkS t.t) t.n
theorem zT_v : tkV zT = tokV 0 0 0 emS 0 := rfl
theorem keep5 {w w2 : World} {o : Obj} (hb : Below (w.alloc o).heap.size (w.alloc o) w2) {cs : Array Value} {t : TypeId} {f : Nat × Nat} (ho : o = .cells cs t f) : w2.heap[w.heap.size]? = some (.cells cs t f) := by
  subst ho
  exact (hb.block _ (by simp)).trans (heap_alloc_new w _)
/-- the blanks at a place, one by one -/
theorem tokA_end {l : List UInt8} {k : Nat} (h : endP blkB l k = l.length) : tokA l k = (zT, 6) := by unfold tokA; rw [if_pos (by omega)]
theorem tokA_at {l : List UInt8} {k p : Nat} (h : endP blkB l k = p) (hp : p < l.length) : tokA l k = tokP l p := by unfold tokA; rw [h, if_neg (by omega)]
end Go.Proofs.YtbimncnicioagaaDoor.Jt
namespace Go.Proofs.YtbimncnicioagaaDoor.Jt
open Go.RowKit Go.Extern.Stop Go.Stop Go.Extern
set_option linter.unusedSimpArgs false
set_option linter.unusedVariables false

end Go.Proofs.YtbimncnicioagaaDoor.Jt
namespace Go.Proofs.YtbimncnicioagaaDoor.Jt
open Go.RowKit
set_option linter.unusedSimpArgs false
set_option linter.unusedVariables false

theorem tokP_zero {l : List UInt8} {p : Nat} (h : (tokP l p).2 ≠ 0) : (tokP l p).1 = zT := by
  unfold tokP at h ⊢
  by_cases h1 : sgnI (at0 l p) ≠ 0
  · rw [if_pos h1] at h; exact absurd rfl h
  · rw [if_neg h1] at h ⊢
    by_cases h2 : at0 l p = 34
    · rw [if_pos h2] at h ⊢
      cases hx : textA l (p + 1) with
      | none => rfl
      | some r => rw [hx] at h; exact absurd rfl h
    · rw [if_neg h2] at h ⊢
      by_cases h3 : at0 l p = 45 ∨ Ch.digB (at0 l p) = true
      · rw [if_pos h3] at h ⊢
        by_cases h4 : Nu.pE (cutL l p (endP numB l p)) = 0
        · rw [if_pos h4] at h; exact absurd rfl h
        · rw [if_neg h4]
      · rw [if_neg h3] at h ⊢
        by_cases h4 : wrdK (cutL l p (endP wordB l p)) = 0
        · rw [if_pos h4]
        · rw [if_neg h4] at h; exact absurd rfl h
theorem tokA_zero {l : List UInt8} {k : Nat} (h : (tokA l k).2 ≠ 0) : (tokA l k).1 = zT := by
  unfold tokA at h ⊢
  by_cases h1 : l.length ≤ endP blkB l k
  · rw [if_pos h1]
  · rw [if_neg h1] at h ⊢; exact tokP_zero h
theorem five_aa {w : World} {g : Nat} {t : TypeId} {f : Nat × Nat} {x0 x1 x2 x3 x4 : Value} (h : w.heap[g]? = some (.cells #[x0, x1, x2, x3, x4] t f)) (v0 v1 v2 v3 v4 : Value) (o o' : Obj) :
    (((((((w.setCell ⟨g, 0, none⟩ v0).setCell ⟨g, 1, none⟩ v1).setCell ⟨g, 2, none⟩ v2).setCell ⟨g, 3, none⟩ v3).setCell ⟨g, 4, none⟩ v4).alloc o).alloc o').heap[g]? = some (.cells #[v0, v1, v2, v3, v4] t f) := by
  have h5 := Ut.five_a h v0 v1 v2 v3 v4 o
  exact (Below.heap_alloc _ o' g (Array.getElem?_eq_some_iff.1 h5).1).trans h5
def ret2 (t : Value) (e : Int) : Ending := .returned (.tuple #[t, .int .i64 e])
end Go.Proofs.YtbimncnicioagaaDoor.Jt
namespace Go.Proofs.YtbimncnicioagaaDoor.Jt
open Go.RowKit
set_option linter.unusedSimpArgs false
set_option linter.unusedVariables false

/-- what a text in quotes stands for -/
def unqL (l : List UInt8) : Option (List UInt8) :=
  if 0 < l.length ∧ at0 l 0 = 34 then (match textA l 1 with | none => none | some r => if r.2 = l.length then some r.1 else none) else none
theorem unq_tok {l t : List UInt8} (h : unqL l = some t) : tokA l 0 = (⟨7, 0, l.length, t, 0⟩, 0) := by
  unfold unqL at h
  by_cases hc : 0 < l.length ∧ at0 l 0 = 34
  · rw [if_pos hc] at h
    have hb : endP blkB l 0 = 0 := endP_no hc.1 (by
      unfold blkB
      rw [← at0_get hc.1, hc.2]; decide)
    rw [tokA_at hb hc.1]
    unfold tokP
    rw [hc.2, if_neg (by decide), if_pos rfl]
    cases hx : textA l 1 with
    | none => rw [hx] at h; cases h
    | some r =>
      rw [hx] at h
      simp only at h
      by_cases hr : r.2 = l.length
      · rw [if_pos hr] at h
        injection h with h
        show ((⟨7, 0, r.2, r.1, 0⟩ : Tok), (0 : Int)) = _
        rw [hr, h]
      · rw [if_neg hr] at h; cases h
  · rw [if_neg hc] at h; cases h
theorem wrdK_7 (l : List UInt8) : wrdK l ≠ 7 := by unfold wrdK; (repeat' split) <;> omega
theorem sgnI_7 (c : Int) : sgnI c ≠ 7 := by unfold sgnI; (repeat' split) <;> omega
theorem tok_unq {l t : List UInt8} {n : Int} {b : Nat} (hb : b = l.length) (h : tokA l 0 = (⟨7, 0, b, t, n⟩, 0)) : unqL l = some t := by
  unfold tokA at h
  by_cases hp : l.length ≤ endP blkB l 0
  · rw [if_pos hp] at h; cases h
  · rw [if_neg hp] at h
    unfold tokP at h
    by_cases h1 : sgnI (at0 l (endP blkB l 0)) ≠ 0
    · rw [if_pos h1] at h
      simp only [Prod.mk.injEq, Tok.mk.injEq] at h
      exact absurd h.1.1 (sgnI_7 _)
    · rw [if_neg h1] at h
      by_cases h2 : at0 l (endP blkB l 0) = 34
      · rw [if_pos h2] at h
        cases hx : textA l (endP blkB l 0 + 1) with
        | none => rw [hx] at h; cases h
        | some r =>
          rw [hx] at h
          simp only [Prod.mk.injEq, Tok.mk.injEq] at h
          obtain ⟨⟨_, e0, e1, e2, _⟩, _⟩ := h
          rw [e0] at h2 hx hp
          unfold unqL
          rw [if_pos ⟨by omega, h2⟩, hx]
          show (if r.2 = l.length then some r.1 else none) = some t
          rw [if_pos (by omega), e2]
      · rw [if_neg h2] at h
        by_cases h3 : at0 l (endP blkB l 0) = 45 ∨ Ch.digB (at0 l (endP blkB l 0)) = true
        · rw [if_pos h3] at h
          split at h
          · simp only [Prod.mk.injEq, Tok.mk.injEq] at h; omega
          · unfold zT at h; simp only [Prod.mk.injEq, Tok.mk.injEq] at h; omega
        · rw [if_neg h3] at h
          split at h
          · unfold zT at h; simp only [Prod.mk.injEq, Tok.mk.injEq] at h; omega
          · simp only [Prod.mk.injEq, Tok.mk.injEq] at h; exact absurd h.1.1 (wrdK_7 _)
def unqV (o : Option (List UInt8)) : Ending := match o with | none => .returned (.tuple #[.string ⟨#[]⟩, .int .i64 3]) | some t => .returned (.tuple #[.string (mkS t), .int .i64 0])
theorem neqNil : ∀ W : World, (binOp .neq 72 .nilIface .nilIface).run Tryd.prog W = .ok (.bool false) W := fun _ => by kernel_rfl
end Go.Proofs.YtbimncnicioagaaDoor.Jt
