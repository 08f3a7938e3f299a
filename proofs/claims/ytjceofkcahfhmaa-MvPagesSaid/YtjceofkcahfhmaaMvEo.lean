/- append onto a row of one's own, at whatever offset, of whatever can be read; no other condition. -/
import Derived.Test.YtjceofkcahfhmaaMvEp
import Derived.Test.YtjceofkcahfhmaaMvEn
import Derived.Deep.AppendSrc
import Derived.WalkKit
import Derived.WalkSpells
import Derived.Lib.Hide
import Derived.Laws.AppendOwn
import Derived.OwnWalk
import Derived.Maps.OwnSet
import Derived.Maps.RangeWalk
import Derived.Deep.MidRow
import Derived.Deep.Upon
import Derived.Deep.AppendLies
import Derived.Deep.Cut
import Derived.Deep.RegionLaw
import Derived.Deep.RegionLawGrows
import Derived.Lib.LazyBuf
import Derived.Deep.QuietTactic
import Derived.BigQuiet
namespace Go.Proofs.Ytjceofkcahfhmaa.Mv
open Go.RowKit Go.Lib Go.Maps
open Go.Proofs.Ytjceofkcahfhmaa.Cn
set_option linter.unusedSimpArgs false
set_option linter.unusedVariables false

theorem addrO (g o j : Nat) : (⟨g, o, none⟩ : Addr).add j = ⟨g, o + j, none⟩ := by unfold Addr.add; split <;> simp_all
theorem frzB {w : World} {g : Nat} {cs : Array Value} {t : TypeId} (h : w.heap[g]? = some (.cells cs t (0, 0))) (j : Nat) : w.frozen? ⟨g, j, none⟩ = false := by simp [World.frozen?, h]
theorem range_below {B g o : Nat} {cs : List Value} {w W : World} (h : w.rangeAt g o cs) (hb : Below B w W) (hg : g < B) : W.rangeAt g o cs := fun j v hv => (hb.cell (p := ⟨g, o + j, none⟩) hg).trans (h j v hv)
theorem own_range {T : TypeId} {B k n g cap : Nat} {xs : List Value} {w : World} (h : w.ownsRow B T k (.slice (some ⟨g, 0, none⟩) n cap) n xs) : g < w.heap.size ∧ B ≤ g ∧ n ≤ cap ∧ cap ≤ maxLen ∧ w.rangeAt g 0 xs ∧ w.there g 0 (cap * k) := by
  rcases h.2 with ⟨e, _⟩ | ⟨g', cap', cur, hv, hB, hgh, hn, hm, hz, htk⟩
  · cases e
  · injection hv with h1 h2 h3
    injection h1 with h1
    injection h1 with h1
    subst h1 h3
    refine ⟨(Array.getElem?_eq_some_iff.1 hgh).1, hB, hn, hm, fun j v hv => ?_, fun j hj => ⟨?_, frzB hgh _⟩⟩
    · have hj : j < n * k := by
        rcases Nat.lt_or_ge j (n * k) with q | q
        · exact q
        · rw [← htk, List.getElem?_eq_none (by rw [List.length_take]; omega)] at hv; cases hv
      rw [cell_of_row _ _ _ _ _ _ hgh, Nat.zero_add, ← hv, ← htk, List.getElem?_take_of_lt hj, Array.getElem?_toList]
    · rw [cell_of_row _ _ _ _ _ _ hgh, Nat.zero_add, Array.getElem?_eq_getElem (by omega)]; rfl
/-- cells of elements that can be read: n of them -/
def Rd (n : Nat) (cs : List Value) (v : Value) (w : World) : Prop := ∃ ao cap, v = .slice ao n cap ∧ (0 < n → ∃ g o, ao = some ⟨g, o, none⟩ ∧ g < w.heap.size ∧ w.rangeAt g o cs)
theorem Rd.go {n : Nat} {cs : List Value} {v : Value} {w W : World} (h : Rd n cs v w) (hb : Below w.heap.size w W) : Rd n cs v W := by
  obtain ⟨ao, cap, rfl, h⟩ := h
  refine ⟨ao, cap, rfl, fun h0 => ?_⟩
  obtain ⟨g, o, rfl, hg, hc⟩ := h h0
  exact ⟨g, o, rfl, Nat.lt_of_lt_of_le hg hb.size, range_below hc hb hg⟩
theorem Rd.nil (cs : List Value) (ao : Option Addr) (cap : Nat) (w : World) : Rd 0 cs (.slice ao 0 cap) w := ⟨ao, cap, rfl, fun h => absurd h (Nat.lt_irrefl _)⟩
theorem Rd.at {n m cap : Nat} {cs : List Value} {ao : Option Addr} {w : World} (h : Rd n cs (.slice ao m cap) w) (h0 : 0 < n) : ∃ g o, ao = some ⟨g, o, none⟩ ∧ g < w.heap.size ∧ w.rangeAt g o cs := by
  obtain ⟨ao', cp, e, hh⟩ := h
  injection e with ea eb ec
  subst ea
  exact hh h0
/-- elements of one's own, at whatever offset: n of k cells each -/
def OwG (B k n : Nat) (v : Value) (cs : List Value) (w : World) : Prop := cs.length = n * k ∧ ((v = .slice none 0 0 ∧ n = 0) ∨ ∃ g o cap, v = .slice (some ⟨g, o, none⟩) n cap ∧ B ≤ g ∧ g < w.heap.size ∧ n ≤ cap ∧ cap ≤ maxLen ∧ w.rangeAt g o cs ∧ w.there g o (cap * k))
theorem OwG.form {B k n : Nat} {v : Value} {cs : List Value} {w : World} (h : OwG B k n v cs w) : ∃ ao cap, v = .slice ao n cap ∧ n ≤ cap ∧ (ao = none → n = 0 ∧ cap = 0) := by
  rcases h.2 with ⟨rfl, rfl⟩ | ⟨g, o, cap, rfl, _, _, h3, _⟩
  · exact ⟨none, 0, rfl, Nat.le_refl _, fun _ => ⟨rfl, rfl⟩⟩
  · exact ⟨_, _, rfl, h3, fun e => by cases e⟩
theorem OwG.rd {B k n : Nat} {v : Value} {cs : List Value} {w : World} (h : OwG B k n v cs w) : Rd n cs v w := by
  rcases h.2 with ⟨rfl, rfl⟩ | ⟨g, o, cap, rfl, h1, h2, h3, h4, h5, h6⟩
  · exact Rd.nil _ _ _ _
  · exact ⟨_, _, rfl, fun _ => ⟨g, o, rfl, h2, h5⟩⟩
theorem OwG.nil (B k : Nat) (w : World) : OwG B k 0 (.slice none 0 0) [] w := ⟨by simp, .inl ⟨rfl, rfl⟩⟩
/-- where its block stays as it is -/
theorem OwG.kept {B k n : Nat} {v : Value} {cs : List Value} {w W : World} (h : OwG B k n v cs w) (hs : w.heap.size ≤ W.heap.size) (hb : ∀ g, v.ownBlock = some g → W.heap[g]? = w.heap[g]?) : OwG B k n v cs W := by
  refine ⟨h.1, ?_⟩
  rcases h.2 with ⟨rfl, rfl⟩ | ⟨g, o, cap, rfl, h1, h2, h3, h4, h5, h6⟩
  · exact .inl ⟨rfl, rfl⟩
  · have hg := hb g rfl
    refine .inr ⟨g, o, cap, rfl, h1, Nat.lt_of_lt_of_le h2 hs, h3, h4, fun j v hv => ?_, fun j hj => ?_⟩
    · rw [World.cell?_of_block (w := w) (a := ⟨g, o + j, none⟩) hg]; exact h5 j v hv
    · rw [World.cell?_of_block (w := w) (a := ⟨g, o + j, none⟩) hg, World.frozen?_of_block (w := w) (a := ⟨g, o + j, none⟩) hg]; exact h6 j hj
theorem OwG.lt {B k n : Nat} {v : Value} {cs : List Value} {w : World} (h : OwG B k n v cs w) : ∀ g, v.ownBlock = some g → B ≤ g ∧ g < w.heap.size := by
  intro q hq
  rcases h.2 with ⟨rfl, rfl⟩ | ⟨g, o, cap, rfl, h1, h2, _⟩
  · cases hq
  · injection hq with hq
    have : g = q := hq
    subst this
    exact ⟨h1, h2⟩
theorem OwG.go {B k n : Nat} {v : Value} {cs : List Value} {w W : World} (h : OwG B k n v cs w) (hb : Below w.heap.size w W) : OwG B k n v cs W := h.kept hb.size (fun g hg => hb.block g (h.lt g hg).2)
theorem OwG.mono {B B' k n : Nat} {v : Value} {cs : List Value} {w : World} (h : OwG B k n v cs w) (hB : B' ≤ B) : OwG B' k n v cs w := by
  refine ⟨h.1, ?_⟩
  rcases h.2 with h | ⟨g, o, cap, e, h1, h2⟩
  · exact .inl h
  · exact .inr ⟨g, o, cap, e, by omega, h2⟩
theorem OwG.of_own {T : TypeId} {B k n : Nat} {v : Value} {cs : List Value} {w : World} (h : w.ownsRow B T k v n cs) : OwG B k n v cs w := by
  refine ⟨h.1, ?_⟩
  rcases h.2 with ⟨e, h0⟩ | ⟨g, cap, cur, hv, _⟩
  · exact .inl ⟨e, h0⟩
  · subst hv
    obtain ⟨h1, h2, h3, h4, h5, h6⟩ := own_range h
    exact .inr ⟨g, 0, cap, rfl, h2, h1, h3, h4, h5, h6⟩
/-- elements more, in the room that is there -/
theorem OwG.more {B k n m g o cap : Nat} {cs ds : List Value} {w : World} (h : OwG B k n (.slice (some ⟨g, o, none⟩) n cap) cs w) (hd : ds.length = m * k) (hc : n + m ≤ cap) : OwG B k (n + m) (.slice (some ⟨g, o, none⟩) (n + m) cap) (cs ++ ds) (w.setCells g (o + n * k) ds) := by
  have hcl := h.1
  refine ⟨by rw [List.length_append, hcl, hd, Nat.add_mul], ?_⟩
  rcases h.2 with ⟨e, _⟩ | ⟨g', o', cap', e, h1, h2, h3, h4, h5, h6⟩
  · cases e
  · injection e with e1 e2 e3
    injection e1 with e1
    injection e1 with e1 e4
    subst e1 e3 e4
    have hsz : g < (w.setCells g (o + n * k) ds).heap.size := by
      have := (below_setCells (B := 0) (Nat.zero_le g) ds (o + n * k) w (Below.refl 0 w)).size
      omega
    refine .inr ⟨g, o, cap, rfl, h1, hsz, hc, h4, fun j v hv => ?_, World.there_setCells h6 _ _ _⟩
    rcases Nat.lt_or_ge j cs.length with q | q
    · rw [List.getElem?_append_left q] at hv
      rw [World.cell?_setCells_out _ _ _ _ _ (fun _ _ => Or.inl (by simp only; omega))]
      exact h5 j v hv
    · rw [List.getElem?_append_right q, hcl] at hv
      have hle : (n + m) * k ≤ cap * k := Nat.mul_le_mul_right _ hc
      rw [Nat.add_mul] at hle
      have := World.rangeAt_setCells_same w g (o + n * k) ds (fun i hi => by
        have := h6 (n * k + i) (by omega)
        rwa [← Nat.add_assoc] at this) _ _ hv
      rwa [show o + n * k + (j - n * k) = o + j by omega] at this
theorem tape_setCells (b : Nat) : ∀ (vs : List Value) (o : Nat) (w : World), (w.setCells b o vs).tape = w.tape
  | [], _, _ => rfl
  | v :: r, o, w => (tape_setCells b r (o + 1) _).trans rfl
theorem size_sets (b : Nat) : ∀ (vs : List Value) (o : Nat) (w : World), (w.setCells b o vs).heap.size = w.heap.size
  | [], _, _ => rfl
  | v :: r, o, w => (size_sets b r (o + 1) _).trans (by simp [World.setCell])
theorem grown_sets (w : World) (g o : Nat) (vs : List Value) : w.grownBy (w.setCells g o vs) (some g) :=
  ⟨World.os_setCells _ _ _ _, tape_setCells _ _ _ _, World.output_setCells _ _ _ _, Nat.le_of_eq (size_sets _ _ _ _).symm, fun k hk hg => World.heap_setCells_other _ _ _ _ hk (fun e => hg (by rw [e]))⟩
/-- what append leaves -/
def ApR (P : Program) (t : TypeId) (B k n : Nat) (v x : Value) (cs : List Value) (W : World) : Prop := ∃ v' W', (∀ ty, (Builtin.append_ #[t, t] ty #[v, x]).run P W = .ok v' W') ∧ OwG B k n v' cs W' ∧ W.grownBy W' v.ownBlock ∧ (v'.ownBlock = v.ownBlock ∨ v'.ownBlock = some W.heap.size)
theorem ap_run {P : Program} {t e : TypeId} {i : TypeInfo} {z : Value} {k by' : Nat} (ht : P.underlying t = some (.slice e)) (hi : P.info? e = some i) (hz0 : i.zero = some z) (hz1 : i.size = k) (hz2 : i.bytes = by') (hzs : z.cells.size = k)
    {B n m : Nat} {v x : Value} {cs ds : List Value} {W : World} (hv : OwG B k n v cs W) (hx : Rd m ds x W) (hd : ds.length = m * k) (hone : ∀ u ∈ ds, u.oneCell' = true) (hB : B ≤ W.heap.size) (h63 : n + m ≤ maxLen) (hby : (n + m) * by' ≤ 140737488355328) :
    ApR P t B k (n + m) v x (cs ++ ds) W := by
  subst hz1 hz2
  have hcl := hv.1
  obtain ⟨av, cp, hve, hnc, hnone⟩ := hv.form
  obtain ⟨ax, cx, rfl, hxx⟩ := hx
  rcases Nat.eq_zero_or_pos m with h0 | h0
  · subst h0
    have hd0 : ds = [] := List.eq_nil_of_length_eq_zero (by simpa using hd)
    subst hd0
    refine ⟨v, W, fun ty => ?_, by simpa using hv, ⟨rfl, rfl, rfl, Nat.le_refl _, fun _ _ _ => rfl⟩, .inl rfl⟩
    rw [hve]
    refine run_append_nothing W t t ty e i ht hi av n cp hnc _ ?_
    cases ax with
    | none => exact Src.ofNil W ht cx
    | some a => exact Src.ofSlice W ht a 0 cx [] (by simp) (fun j u hu => by simp at hu) (fun u hu => by cases hu)
  · obtain ⟨g, o, rfl, hg, hrd⟩ := hxx h0
    have hsrc : Src P i.size t (.slice (some ⟨g, o, none⟩) m cx) m ds W := Src.ofSlice W ht ⟨g, o, none⟩ m cx ds hd (fun j u hu => by rw [addrO]; exact hrd j u hu) hone
    have hsmall : n + m ≤ 9223372036854775807 := by simp only [maxLen] at h63; omega
    -- a new row
    have grow : ∀ (bs : Option Addr) (sc : Nat), v = .slice bs n sc → sc < n + m → (Builtin.firstCells i.size n (.slice bs n sc)).run P W.drew = .ok cs.toArray W.drew → ApR P t B i.size (n + m) v (.slice (some ⟨g, o, none⟩) m cx) (cs ++ ds) W := by
      rintro bs sc rfl hgr hold
      have hge := grownCap_ge W (n + m) sc e
      have hcm := grownCap_le_maxLen W (n + m) sc e h63
      have hL : (cs ++ ds).length = (n + m) * i.size := by rw [List.length_append, hcl, hd, Nat.add_mul]
      refine ⟨_, _, fun ty => run_append_grow_src (P := P) W t t ty e i z ht hi hz0 bs n sc cs hold _ m ds hsrc hgr (by omega) (growslice_fits hgr hby), ?_, ⟨rfl, rfl, rfl, by simp, fun q hq _ => Below.heap_alloc W.drew _ q hq⟩, .inr rfl⟩
      refine OwG.of_own (T := e) ⟨hL, .inr ⟨W.heap.size, _, _, rfl, hB, heap_alloc_new W.drew _, hge, hcm, ?_, ?_⟩⟩
      · simp only [Array.size_append, List.size_toArray, size_zeroCells, hzs, hL]
        rw [← Nat.add_mul]
        congr 1
        omega
      · simp only [Array.toList_append]
        rw [← hL]
        exact List.take_left
    rcases hv.2 with ⟨rfl, rfl⟩ | ⟨g', o', cap, rfl, h1, h2, h3, h4, h5, h6⟩
    · have hc0 : cs = [] := List.eq_nil_of_length_eq_zero (by simpa using hcl)
      subst hc0
      exact grow none 0 rfl (by omega) (by simpa using run_firstCells_none W.drew i.size 0 0 0)
    · by_cases hr : n + m ≤ cap
      · have hth : ∀ j, j < ds.length → (W.cell? ⟨g', o' + n * i.size + j, none⟩).isSome = true ∧ W.frozen? ⟨g', o' + n * i.size + j, none⟩ = false := fun j hj => by
          have hle : (n + m) * i.size ≤ cap * i.size := Nat.mul_le_mul_right _ hr
          rw [Nat.add_mul] at hle
          have := h6 (n * i.size + j) (by omega)
          rwa [← Nat.add_assoc] at this
        exact ⟨_, _, fun ty => run_append_room_src (P := P) W t t ty e i ht hi g' o' n cap _ m ds hsrc hr (fun j hj => (hth j hj).1) (fun j hj => (hth j hj).2), hv.more hd hr, grown_sets _ _ _ _, .inl rfl⟩
      · refine grow (some ⟨g', o', none⟩) cap rfl (by omega) (run_firstCells_some W.drew i.size n ⟨g', o', none⟩ n cap cs hcl (fun j u hu => ?_))
        rw [addrO]
        exact h5 j u hu
theorem wpList_append_eq {P : Program} {w : World} {ops : Array Oper} {rest : List Oper} {o : Oper} {a : Act} {Q : Exit → Act → World → Prop} (hgd : o.guard = none) (s x : Operand) (t : TypeId)
    (ho : o.op = .call { callee := .builtin .append, args := #[s, x], argTypes := #[t, t] }) {v xv v' : Value} {W' : World} (hs : a.eval s = v) (hx : a.eval x = xv)
    (hr : ∀ ty, (Builtin.append_ #[t, t] ty #[v, xv]).run P w = .ok v' W') (h : wpList P ops Q rest (a.put o.dst v') W') : wpList P ops Q (o :: rest) a w :=
  wpList_plain hgd fun _ hK => by
    unfold Oper.wp execOp
    simp only [ho, resolve, invoke, builtin, Sem.run_bind, Sem.run_pure, Result.andThen_ok, List.map_toArray, List.map_cons, List.map_nil, hs, hx, hr]
    exact hK _ _ h
theorem step_append_eq {P : Program} {ops : Array Oper} {o : Oper} {a : Act} {w : World} {K : Act → World → Prop} {Q : Exit → Act → World → Prop} {E : Prop} (hgd : o.guard = none) (s x : Operand) (t : TypeId)
    (ho : o.op = .call { callee := .builtin .append, args := #[s, x], argTypes := #[t, t] }) {v xv v' : Value} {W' : World} (hs : a.eval s = v) (hx : a.eval x = xv)
    (hr : ∀ ty, (Builtin.append_ #[t, t] ty #[v, xv]).run P w = .ok v' W') (h : K (a.put o.dst v') W') : if Region.wanted o (yielded ops a.tmps) = true then Oper.wp P o a w K Q else E := by
  have hw : Region.wanted o (yielded ops a.tmps) = true := by simp [Region.wanted, hgd]
  rw [if_pos hw]
  unfold Oper.wp execOp
  simp only [ho, resolve, invoke, builtin, Sem.run_bind, Sem.run_pure, Result.andThen_ok, List.map_toArray, List.map_cons, List.map_nil, hs, hx, hr]
  exact h
end Go.Proofs.Ytjceofkcahfhmaa.Mv
