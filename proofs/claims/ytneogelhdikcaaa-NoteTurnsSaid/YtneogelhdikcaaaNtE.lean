/- append onto elements of one's own, at whatever offset, of whatever can be read: what it leaves; no other condition. -/
import Derived.Test.YtneogelhdikcaaaNtD
import Derived.Deep.AppendSrc
namespace Go.Proofs.Ytneogelhdikcaaa.Nt
open Go.RowKit Go.Lib Go.Maps Go.ChangeMaps Go.MapKept Go.WideMaps
set_option linter.unusedSimpArgs false
set_option linter.unusedVariables false

theorem grown_sets (w : World) (g o : Nat) (vs : List Value) : w.grownBy (w.setCells g o vs) (some g) :=
  ⟨World.os_setCells _ _ _ _, tape_setCells _ _ _ _, World.output_setCells _ _ _ _, Nat.le_of_eq (size_sets _ _ _ _).symm, fun k hk hg => World.heap_setCells_other _ _ _ _ hk (fun e => hg (by rw [e]))⟩
/-- what append leaves -/
def ApR (P : Program) (t : TypeId) (B k n : Nat) (v x : Value) (cs : List Value) (W : World) : Prop := ∃ v' W', (∀ ty, (Builtin.append_ #[t, t] ty #[v, x]).run P W = .ok v' W') ∧ OwG B k n v' cs W' ∧ W.grownBy W' v.ownBlock ∧ (v'.ownBlock = v.ownBlock ∨ v'.ownBlock = some W.heap.size)
theorem ap_run {P : Program} {t e : TypeId} {i : TypeInfo} {z : Value} {k by' : Nat} (ht : P.underlying t = some (.slice e)) (hi : P.info? e = some i) (hz0 : i.zero = some z) (hz1 : i.size = k) (hz2 : i.bytes = by') (hzs : z.cells.size = k)
    {B n m : Nat} {v x : Value} {cs ds : List Value} {W : World} (hv : OwG B k n v cs W) (hx : Rd m ds x W) (hd : ds.length = m * k) (hone : ∀ u ∈ ds, u.oneCell' = true) (hB : B ≤ W.heap.size) (h63 : n + m ≤ maxLen) (hby : (n + m) * by' ≤ 140737488355328) :
    ApR P t B k (n + m) v x (cs ++ ds) W := by
  subst hz1 hz2
  have hcl := hv.1
  obtain ⟨av, cp, hve, hnc, hnone⟩ := hv.form
  obtain ⟨ax, cx, rfl, hxx⟩ := hx
  rcases Nat.eq_zero_or_pos m with h0 | h0
  · subst h0
    have hd0 : ds = [] := List.eq_nil_of_length_eq_zero (by simpa using hd)
    subst hd0
    refine ⟨v, W, fun ty => ?_, by simpa using hv, ⟨rfl, rfl, rfl, Nat.le_refl _, fun _ _ _ => rfl⟩, .inl rfl⟩
    rw [hve]
    refine run_append_nothing W t t ty e i ht hi av n cp hnc _ ?_
    cases ax with
    | none => exact Src.ofNil W ht cx
    | some a => exact Src.ofSlice W ht a 0 cx [] (by simp) (fun j u hu => by simp at hu) (fun u hu => by cases hu)
  · obtain ⟨g, o, rfl, hg, hrd⟩ := hxx h0
    have hsrc : Src P i.size t (.slice (some ⟨g, o, none⟩) m cx) m ds W := Src.ofSlice W ht ⟨g, o, none⟩ m cx ds hd (fun j u hu => by rw [addrO]; exact hrd j u hu) hone
    have hsmall : n + m ≤ 9223372036854775807 := by simp only [maxLen] at h63; omega
    -- a new row
    have grow : ∀ (bs : Option Addr) (sc : Nat), v = .slice bs n sc → sc < n + m → (Builtin.firstCells i.size n (.slice bs n sc)).run P W.drew = .ok cs.toArray W.drew → ApR P t B i.size (n + m) v (.slice (some ⟨g, o, none⟩) m cx) (cs ++ ds) W := by
      rintro bs sc rfl hgr hold
      have hge := grownCap_ge W (n + m) sc e
      have hcm := grownCap_le_maxLen W (n + m) sc e h63
      have hL : (cs ++ ds).length = (n + m) * i.size := by rw [List.length_append, hcl, hd, Nat.add_mul]
      refine ⟨_, _, fun ty => run_append_grow_src (P := P) W t t ty e i z ht hi hz0 bs n sc cs hold _ m ds hsrc hgr (by omega) (growslice_fits hgr hby), ?_, ⟨rfl, rfl, rfl, by simp, fun q hq _ => Below.heap_alloc W.drew _ q hq⟩, .inr rfl⟩
      refine OwG.of_own (T := e) ⟨hL, .inr ⟨W.heap.size, _, _, rfl, hB, heap_alloc_new W.drew _, hge, hcm, ?_, ?_⟩⟩
      · simp only [Array.size_append, List.size_toArray, size_zeroCells, hzs, hL]
        rw [← Nat.add_mul]
        congr 1
        omega
      · simp only [Array.toList_append]
        rw [← hL]
        exact List.take_left
    rcases hv.2 with ⟨rfl, rfl⟩ | ⟨g', o', cap, rfl, h1, h2, h3, h4, h5, h6⟩
    · have hc0 : cs = [] := List.eq_nil_of_length_eq_zero (by simpa using hcl)
      subst hc0
      exact grow none 0 rfl (by omega) (by simpa using run_firstCells_none W.drew i.size 0 0 0)
    · by_cases hr : n + m ≤ cap
      · have hth : ∀ j, j < ds.length → (W.cell? ⟨g', o' + n * i.size + j, none⟩).isSome = true ∧ W.frozen? ⟨g', o' + n * i.size + j, none⟩ = false := fun j hj => by
          have hle : (n + m) * i.size ≤ cap * i.size := Nat.mul_le_mul_right _ hr
          rw [Nat.add_mul] at hle
          have := h6 (n * i.size + j) (by omega)
          rwa [← Nat.add_assoc] at this
        exact ⟨_, _, fun ty => run_append_room_src (P := P) W t t ty e i ht hi g' o' n cap _ m ds hsrc hr (fun j hj => (hth j hj).1) (fun j hj => (hth j hj).2), hv.more hd hr, grown_sets _ _ _ _, .inl rfl⟩
      · refine grow (some ⟨g', o', none⟩) cap rfl (by omega) (run_firstCells_some W.drew i.size n ⟨g', o', none⟩ n cap cs hcl (fun j u hu => ?_))
        rw [addrO]
        exact h5 j u hu
theorem wpList_append_eq {P : Program} {w : World} {ops : Array Oper} {rest : List Oper} {o : Oper} {a : Act} {Q : Exit → Act → World → Prop} (hgd : o.guard = none) (s x : Operand) (t : TypeId)
    (ho : o.op = .call { callee := .builtin .append, args := #[s, x], argTypes := #[t, t] }) {v xv v' : Value} {W' : World} (hs : a.eval s = v) (hx : a.eval x = xv)
    (hr : ∀ ty, (Builtin.append_ #[t, t] ty #[v, xv]).run P w = .ok v' W') (h : wpList P ops Q rest (a.put o.dst v') W') : wpList P ops Q (o :: rest) a w :=
  wpList_plain hgd fun _ hK => by
    unfold Oper.wp execOp
    simp only [ho, resolve, invoke, builtin, Sem.run_bind, Sem.run_pure, Result.andThen_ok, List.map_toArray, List.map_cons, List.map_nil, hs, hx, hr]
    exact hK _ _ h
theorem step_append_eq {P : Program} {ops : Array Oper} {o : Oper} {a : Act} {w : World} {K : Act → World → Prop} {Q : Exit → Act → World → Prop} {E : Prop} (hgd : o.guard = none) (s x : Operand) (t : TypeId)
    (ho : o.op = .call { callee := .builtin .append, args := #[s, x], argTypes := #[t, t] }) {v xv v' : Value} {W' : World} (hs : a.eval s = v) (hx : a.eval x = xv)
    (hr : ∀ ty, (Builtin.append_ #[t, t] ty #[v, xv]).run P w = .ok v' W') (h : K (a.put o.dst v') W') : if Region.wanted o (yielded ops a.tmps) = true then Oper.wp P o a w K Q else E := by
  have hw : Region.wanted o (yielded ops a.tmps) = true := by simp [Region.wanted, hgd]
  rw [if_pos hw]
  unfold Oper.wp execOp
  simp only [ho, resolve, invoke, builtin, Sem.run_bind, Sem.run_pure, Result.andThen_ok, List.map_toArray, List.map_cons, List.map_nil, hs, hx, hr]
  exact h
end Go.Proofs.Ytneogelhdikcaaa.Nt
